/-
  Several texts in one: HrdU HrdO RunU Coll HrdT HrdM HrdK
-/
import Derived.Test.YtekddgmmfgpehaaM6
/-!   Package heard: New, a segment's place, what of it is had.
-/
namespace Go.Proofs.Ytekddgmmfgpehaa.hd
open Go.RowKit aid mem sp rn
attribute [local go_sem ↓] Go.wp_at_zero Go.wp_at_succ
set_option linter.unusedVariables false
set_option linter.unusedSimpArgs false

theorem below_drewN {b : Nat} {w w' : World} (h : Below b w w') (n : Nat) : Below b w (w'.drewN n) := ⟨h.os, h.tape, h.output, h.size, h.block⟩
abbrev RetP (r : Int × Sp) (w : World) (e : Ending) (w' : World) : Prop := e = .returned (.tuple #[.agg #[.int .i64 r.2.1, .int .i64 r.2.2], .int .i64 r.1]) ∧ Below w.heap.size w w'
theorem place_nil (w : World) (num : Int) (n : Nat) : Calls Try.prog 20 #[.pointer none, .int .u32 num, .int .i64 (n : Int)] w (RetP (1, (0, 0)) w) := by
  have hb := bal (w := w) (.cells #[.int .i64 0, .int .i64 0] 36)
  have hs := sp_new w (0, 0)
  have c0 := hs.c0; have c1 := hs.c1; have f0 := hs.f0; have f1 := hs.f1
  clear hs
  go_enter Try.func20, Try.ntmps20
  go_wp2
  exact bodyPost_ret (v := .tuple #[.agg #[.int .i64 0, .int .i64 0], .int .i64 1]) (by simp [results, Try.results20, go_sem]) rfl ⟨rfl, hb⟩
set_option maxHeartbeats 4000000 in
theorem place_any {w : World} {B : Nat} {m : Hb} {x : Hd} (h : HdAt w B m x) (num : Int) (hnum : 0 ≤ num ∧ num ≤ 4294967295) (n : Nat) (hn : n ≤ 9223372036854775807) (hz : nx x.l ≤ 1000000000) :
    Calls Try.prog 20 #[.pointer (some ⟨B, 0, none⟩), .int .u32 num, .int .i64 (n : Int)] w (RetP (pl x num n) w) := by
  have hb := bal (w := w) (.cells #[.int .i64 0, .int .i64 0] 36)
  have hs := sp_new w (0, 0)
  have c0 := hs.c0; have c1 := hs.c1; have f0 := hs.f0; have f1 := hs.f1
  obtain ⟨W, hW⟩ : ∃ W, W = w.alloc (.cells #[.int .i64 0, .int .i64 0] 36) := ⟨_, rfl⟩
  have hA := h.later hb
  rw [← hW] at hA hb c0 c1 f0 f1 hs
  have hb2 := (hb.setCell (p := ⟨w.heap.size, 0, none⟩) (Nat.le_refl _) (.int .i64 0)).setCell (p := ⟨w.heap.size, 1, none⟩) (Nat.le_refl _) (.int .i64 0)
  have hr := h.ok.r
  have hf := h.ok.f
  have hx := nx_spec h.ok.l
  clear h
  by_cases h0 : n = 0
  · subst h0
    have e : pl x num 0 = (6, (0, 0)) := by unfold pl; rw [if_pos rfl]
    rw [e]
    go_enter Try.func20, Try.ntmps20
    go_upto_region 1 with fail
    rw [← hW]
    clear hW hA
    go_wp2
    exact bodyPost_ret (v := .tuple #[.agg #[.int .i64 0, .int .i64 0], .int .i64 6]) (by simp [results, Try.results20, go_sem, c0, c1]) rfl ⟨rfl, hb2⟩
  by_cases h1 : 2048 < n
  · have e : pl x num n = (9, (0, 0)) := by unfold pl; rw [if_neg h0, if_pos h1]
    rw [e]
    have h2 : (2048 : Int) < (n : Int) := by omega
    have h3 : ¬ (n : Int) = 0 := by omega
    go_enter Try.func20, Try.ntmps20
    go_upto_region 1 with fail
    rw [← hW]
    clear hW hA
    go_wp2
    exact bodyPost_ret (v := .tuple #[.agg #[.int .i64 0, .int .i64 0], .int .i64 9]) (by simp [results, Try.results20, go_sem, c0, c1]) rfl ⟨rfl, hb2⟩
  have h2 : ¬ (2048 : Int) < (n : Int) := by omega
  have h3 : ¬ (n : Int) = 0 := by omega
  have HN := Lib.hid (fun k => show Calls Try.prog 14 #[.pointer (some ⟨B, 0, none⟩)] (W.drewN k) fun e w'' => e = .returned (.int .i64 (nx x.l)) ∧ ∃ m, w'' = W.drewN m from (next_q (hA.drewN k)).mono fun e w' q => ⟨q.1, k, q.2.symm⟩)
  have hm := sq.m32_bd (num - x.first)
  have HNX := Lib.hid (fun X (q : HdAt X B m x) k => show Calls Try.prog 14 #[.pointer (some ⟨B, 0, none⟩)] (X.drewN k) fun e w'' => e = .returned (.int .i64 (nx x.l)) ∧ ∃ m, w'' = X.drewN m from (next_q (q.drewN k)).mono fun e w' q => ⟨q.1, k, q.2.symm⟩)
  have HU := Lib.hid (fun k => show Calls Try.prog 47 #[.int .i64 (nx x.l), .int .u32 (sq.m32 (num - x.first))] (W.drewN k) fun e w'' => e = .returned (.tuple #[.int .i64 (sq.unw (nx x.l) (sq.m32 (num - x.first))).1, .bool (sq.unw (nx x.l) (sq.m32 (num - x.first))).2]) ∧ ∃ m, w'' = W.drewN m from (sq.unwrap_any (nx x.l) (sq.m32 (num - x.first)) (W.drewN k) (by omega) (by omega)).mono fun e w' q => ⟨q.1, k, q.2.symm⟩)
  have hw1 : IntKind.u32.wrap (num - x.first) = sq.m32 (num - x.first) := by unfold sq.m32 IntKind.wrap; simp [IntKind.bits, IntKind.signed]
  have HC := Lib.hid (fun X (q : HdAt X B m x) => q.cs)
  obtain ⟨d0, d1, d2, d3⟩ := hA.cs
  have HA := Lib.hid hA
  have HS := Lib.hid hs
  have HE : Hid (pl x num n = if (sq.unw (nx x.l) (sq.m32 (num - x.first))).2 = true then
    if nx x.l + x.room < (sq.unw (nx x.l) (sq.m32 (num - x.first))).1 + n then (12, (0, 0)) else (0, ((sq.unw (nx x.l) (sq.m32 (num - x.first))).1, (sq.unw (nx x.l) (sq.m32 (num - x.first))).1 + n)) else (11, (0, 0))) := Lib.hid (by unfold pl; rw [if_neg h0, if_neg h1])
  have hub : (sq.unw (nx x.l) (sq.m32 (num - x.first))).2 = true → 0 ≤ (sq.unw (nx x.l) (sq.m32 (num - x.first))).1 ∧ (sq.unw (nx x.l) (sq.m32 (num - x.first))).1 ≤ 4611686018427387904 := by
    intro q
    unfold sq.unw at q ⊢
    split at q
    · split at q
      · rename_i q1 q2
        rw [if_pos q1, if_pos q2]
        unfold sq.isMay at q2
        simpa using q2
      · exact absurd q (by decide)
    · exact absurd q (by decide)
  clear hA hs
  generalize pl x num n = r at *
  obtain ⟨hx0, hx1, _, _⟩ := hx
  generalize sq.unw (nx x.l) (sq.m32 (num - x.first)) = u at *
  generalize sq.m32 (num - x.first) = mm at *
  generalize nx x.l = N at *
  obtain ⟨u, ub⟩ := u
  have HBB := Lib.hid hb
  have hsz : w.heap.size < W.heap.size := by rw [hW]; simp
  cases ub
  · have e := HE.out
    rw [if_neg (by simp)] at e
    subst e
    clear hub HE
    go_enter Try.func20, Try.ntmps20
    go_upto_region 7 with fail
    rw [← hW]
    clear hW
    go_quiet ((first
      | (go_at_call 14; exact HN.out _)
      | (go_at_call 47; exact HU.out _)))
    go_wp2
    exact bodyPost_ret (v := .tuple #[.agg #[.int .i64 0, .int .i64 0], .int .i64 11]) (by simp [results, Try.results20, go_sem, c0, c1]) rfl ⟨rfl, ((below_drewN HBB.out nq).setCell (p := ⟨w.heap.size, 0, none⟩) (Nat.le_refl _) (.int .i64 0)).setCell (p := ⟨w.heap.size, 1, none⟩) (Nat.le_refl _) (.int .i64 0)⟩
  · have e := HE.out
    rw [if_pos rfl] at e
    have hub := hub rfl
    simp only at e hub
    have HE2 := Lib.hid e
    clear e HE
    have hw2 : IntKind.i64.wrap (u + (n : Int)) = u + (n : Int) := IntWalk.i64_in _ (by omega)
    have hw3 : IntKind.i64.wrap (N + (x.room : Int)) = N + (x.room : Int) := IntWalk.i64_in _ (by omega)
    have HN2 := Lib.hid (fun X (q : HdAt X B m x) k => show Calls Try.prog 14 #[.pointer (some ⟨B, 0, none⟩)] (X.drewN k) fun e w'' => e = .returned (.int .i64 N) ∧ ∃ m, w'' = X.drewN m from HNX.out X q k)
    have HCS := Lib.hid (fun X (q : HdAt X B m x) => show X.cell? ⟨B, 2, none⟩ = some (.slice (some ⟨m.g, 0, none⟩) x.room m.rc) from q.cs.2.2.1)
    clear HNX
    have HCUT : Hid (∀ X, HdAt X B m x → Below w.heap.size w X → SpAt X w.heap.size (0, 0) → ∀ k, HdAt (X.drewN k) B m x ∧ Below w.heap.size w (X.drewN k) ∧ SpAt (X.drewN k) w.heap.size (0, 0)) := Lib.hid (fun X h1 h2 h3 k => ⟨h1.drewN k, below_drewN h2 k, h3⟩)
    by_cases ha : N + (x.room : Int) < u + (n : Int)
    · have e := HE2.out
      rw [if_pos ha] at e
      subst e
      go_enter Try.func20, Try.ntmps20
      go_upto_region 7 with fail
      rw [← hW]
      clear hW
      go_quiet ((first
        | (go_at_call 14; exact HN.out _)
        | (go_at_call 47; exact HU.out _)))
      obtain ⟨hA2, hb2, hs2⟩ := HCUT.out _ HA.out HBB.out HS.out nq
      clear c0 c1 f0 f1 d0 d1 d2 d3 HN HU
      generalize W.drewN nq = V at *
      have hb3 := bal (w := V) (.cells #[.int .i64 u, .int .i64 (u + (n : Int))] 36)
      have hs3 := sp_new V (u, u + (n : Int))
      have hA3 := hA2.later hb3
      have hb4 := hb2.trans (hb3.mono hb2.size)
      have hs4 := hs2.later hb3
      clear hA2 hb2 hs2 hb3
      go_upto_region 11 with fail
      generalize V.alloc (.cells #[.int .i64 u, .int .i64 (u + (n : Int))] 36) = U at *
      generalize V.heap.size = vb at *
      have HN4 := Lib.hid (HN2.out _ hA3)
      have HAU := Lib.hid hA3
      have e0 := hs3.c0; have e1 := hs3.c1; have d2 := HCS.out _ hA3
      have c0 := hs4.c0; have c1 := hs4.c1; have f0 := hs4.f0; have f1 := hs4.f1
      have HB4 := Lib.hid hb4
      clear hA3 hs3 hs4 hb4
      go_quiet ((go_at_call 14; exact HN4.out _))
      go_wp2
      exact bodyPost_ret (v := .tuple #[.agg #[.int .i64 0, .int .i64 0], .int .i64 12]) (by simp [results, Try.results20, go_sem, c0, c1]) rfl ⟨rfl, ((below_drewN HB4.out nq).setCell (p := ⟨w.heap.size, 0, none⟩) (Nat.le_refl _) (.int .i64 0)).setCell (p := ⟨w.heap.size, 1, none⟩) (Nat.le_refl _) (.int .i64 0)⟩
    · have e := HE2.out
      rw [if_neg ha] at e
      subst e
      go_enter Try.func20, Try.ntmps20
      go_upto_region 7 with fail
      rw [← hW]
      clear hW
      go_quiet ((first
        | (go_at_call 14; exact HN.out _)
        | (go_at_call 47; exact HU.out _)))
      obtain ⟨hA2, hb2, hs2⟩ := HCUT.out _ HA.out HBB.out HS.out nq
      clear c0 c1 f0 f1 d0 d1 d2 d3 HN HU
      generalize W.drewN nq = V at *
      have hb3 := bal (w := V) (.cells #[.int .i64 u, .int .i64 (u + (n : Int))] 36)
      have hs3 := sp_new V (u, u + (n : Int))
      have hA3 := hA2.later hb3
      have hb4 := hb2.trans (hb3.mono hb2.size)
      have hs4 := hs2.later hb3
      clear hA2 hb2 hs2 hb3
      go_upto_region 11 with fail
      generalize V.alloc (.cells #[.int .i64 u, .int .i64 (u + (n : Int))] 36) = U at *
      generalize V.heap.size = vb at *
      have HN4 := Lib.hid (HN2.out _ hA3)
      have HAU := Lib.hid hA3
      have e0 := hs3.c0; have e1 := hs3.c1; have d2 := HCS.out _ hA3
      have c0 := hs4.c0; have c1 := hs4.c1; have f0 := hs4.f0; have f1 := hs4.f1
      have HB4 := Lib.hid hb4
      clear hA3 hs3 hs4 hb4
      go_quiet ((go_at_call 14; exact HN4.out _))
      go_wp2
      exact bodyPost_ret (v := .tuple #[.agg #[.int .i64 u, .int .i64 (u + (n : Int))], .int .i64 0]) (by simp [results, Try.results20, go_sem, c0, c1]) rfl ⟨rfl, ((below_drewN HB4.out nq).setCell (p := ⟨w.heap.size, 0, none⟩) (Nat.le_refl _) (.int .i64 u)).setCell (p := ⟨w.heap.size, 1, none⟩) (Nat.le_refl _) (.int .i64 (u + (n : Int)))⟩
end Go.Proofs.Ytekddgmmfgpehaa.hd
/-!   Package heard: what of a segment is had.
-/
namespace Go.Proofs.Ytekddgmmfgpehaa.hd
open Go.RowKit aid mem sp rn
attribute [local go_sem ↓] Go.wp_at_zero Go.wp_at_succ
set_option linter.unusedVariables false
set_option linter.unusedSimpArgs false

/-- the boxes of once -/
structure On (w : World) (B : Nat) (m : Hb) (x : Hd) (s : Sp) (W : World) : Prop where
  h : HdAt W B m x
  s : SpAt W w.heap.size s
  z : SpAt W (w.heap.size + 1) (0, 0)
  below : Below w.heap.size w W
  lt : ∀ b ∈ B :: parts m, b < w.heap.size
theorem On.later {w W W' : World} {B : Nat} {m : Hb} {x : Hd} {s : Sp} (h : On w B m x s W) (hb : Below W.heap.size W W') : On w B m x s W' := ⟨h.h.later hb, h.s.later hb, h.z.later hb, h.below.trans (hb.mono h.below.size), h.lt⟩
theorem On.cs {w W : World} {B : Nat} {m : Hb} {x : Hd} {s : Sp} (h : On w B m x s W) : W.cell? ⟨B, 3, none⟩ = some (.pointer (some ⟨m.H, 0, none⟩)) ∧ W.cell? ⟨w.heap.size, 0, none⟩ = some (.int .i64 s.1) := ⟨h.h.cs.2.2.2, h.s.c0⟩
theorem put2 {W : World} {b : Nat} {s t : Sp} (h : SpAt W b s) : SpAt ((W.setCell ⟨b, 0, none⟩ (.int .i64 t.1)).setCell ⟨b, 1, none⟩ (.int .i64 t.2)) b t ∧ Kept [b] W ((W.setCell ⟨b, 0, none⟩ (.int .i64 t.1)).setCell ⟨b, 1, none⟩ (.int .i64 t.2)) := by
  refine ⟨?_, ((Kept.refl [b] W).setCell (.inl (by simp)) _).setCell (.inl (by simp)) _⟩
  have e0 := heap_setCell_same W b 0 _ _ (.int .i64 t.1) h
  have e1 := heap_setCell_same (W.setCell ⟨b, 0, none⟩ (.int .i64 t.1)) b 1 _ _ (.int .i64 t.2) e0
  exact e1
theorem on_new {w : World} {B : Nat} {m : Hb} {x : Hd} (h : HdAt w B m x) (s : Sp) : On w B m x s ((w.alloc (.cells #[.int .i64 s.1, .int .i64 s.2] 36)).alloc (.cells #[.int .i64 0, .int .i64 0] 36)) := by
  have b1 := bal (w := w) (.cells #[.int .i64 s.1, .int .i64 s.2] 36)
  have s1 := sp_new w s
  have h0 := h.lt
  have z1 : (w.alloc (.cells #[.int .i64 s.1, .int .i64 s.2] 36)).heap.size = w.heap.size + 1 := by simp
  have h1 := h.later b1
  generalize w.alloc (.cells #[.int .i64 s.1, .int .i64 s.2] 36) = w1 at *
  have b2 := bal (w := w1) (.cells #[.int .i64 0, .int .i64 0] 36)
  have s2 := sp_new w1 (0, 0)
  rw [z1] at s2
  exact ⟨h1.later b2, s1.later b2, s2, b1.trans (b2.mono b1.size), h0⟩
theorem On.put {w W : World} {B Z : Nat} {m : Hb} {x : Hd} {s t y : Sp} (h : On w B m x s W) (ht : SpAt W Z t) (hZ : w.heap.size + 1 < Z) :
    On w B m x s ((W.setCell ⟨Z, 0, none⟩ (.int .i64 y.1)).setCell ⟨Z, 1, none⟩ (.int .i64 y.2)) ∧ SpAt ((W.setCell ⟨Z, 0, none⟩ (.int .i64 y.1)).setCell ⟨Z, 1, none⟩ (.int .i64 y.2)) Z y := by
  obtain ⟨h1, h2⟩ := put2 (t := y) ht
  exact ⟨⟨h.h.keep h2 (fun b hb e => by have := h.lt b hb; simp at e; omega), h2.heap (by simp; omega) h.s, h2.heap (by simp; omega) h.z, h.below.trans (h2.below (by simp; omega) h.below.size), h.lt⟩, h1⟩
set_option maxHeartbeats 4000000 in
theorem once_any {w : World} {B : Nat} {m : Hb} {x : Hd} (h : HdAt w B m x) (hz : x.l.length ≤ 4096) (s : Sp) :
    Calls Try.prog 21 #[.pointer (some ⟨B, 0, none⟩), .agg #[.int .i64 s.1, .int .i64 s.2]] w (RetS (meetP (nextL x.l s.1) s) w) := by
  have HNX := Lib.hid (fun X (q : HdAt X B m x) => show Calls Try.prog 48 #[.pointer (some ⟨m.H, 0, none⟩), .int .i64 s.1] X (RetSB (nextL x.l s.1) (decide (0 < lenI (nextL x.l s.1))) X) from by
    obtain ⟨a, n, cap, hr, e, _⟩ := q.own.rv
    exact next_any hr q.ok.l (by omega) s.1)
  have hO := on_new h s
  generalize nextL x.l s.1 = y at *
  have HM := Lib.hid (fun X => meet_any y s X)
  generalize meetP y s = z at *
  clear h
  go_enter Try.func21, Try.ntmps21
  go_upto_region 1 with fail
  generalize (w.alloc (.cells #[.int .i64 s.1, .int .i64 s.2] 36)).alloc (.cells #[.int .i64 0, .int .i64 0] 36) = W at *
  go_cut [5] (fun s5 wx => ∃ Z, s5 = .pointer (some ⟨Z, 0, none⟩) ∧ Hid (On w B m x s wx ∧ SpAt wx Z y))
  case first =>
    obtain ⟨c0, c1⟩ := hO.cs
    have HO := Lib.hid (hO.later (Below.refl _ _).drew)
    have HZ := Lib.hid (hO.later (bal (.cells #[.int .i64 0, .int .i64 0] 36)).drew)
    have HSZ := Lib.hid (show SpAt (W.alloc (.cells #[.int .i64 0, .int .i64 0] 36)).drew W.heap.size (0, 0) from sp_new W (0, 0))
    have P0 := HO.out.cs; have P1 := HZ.out.cs
    have HWZ := Lib.hid (show w.heap.size + 1 < W.heap.size from lt_of_block hO.z)
    clear hO
    go_wp2_with fail
    go_region_held3 (fun V => V.cell? ⟨B, 3, none⟩ = some (.pointer (some ⟨m.H, 0, none⟩)) ∧ V.cell? ⟨w.heap.size, 0, none⟩ = some (.int .i64 s.1)) (first | with_reducible exact P0 | with_reducible exact P1 | with_reducible exact P2 | with_reducible exact P3 | go_keep)
      ((go_at_call 48; first
        | ((with_reducible refine (HNX.out _ HO.out.h).mono ?_); rintro e w5 ⟨rfl, hb5⟩; have R := HO.out.later hb5; have P2 := R.cs; have P3 := (R.later (bal (.cells #[.int .i64 0, .int .i64 0] 36))).cs; have HR := Lib.hid (And.intro (R.later (bal (.cells #[.int .i64 y.1, .int .i64 y.2] 36))) (sp_new w5 y)); clear hb5 R)
        | ((with_reducible refine (HNX.out _ HZ.out.h).mono ?_); rintro e w5 ⟨rfl, hb5⟩; have R := HZ.out.later hb5; have P2 := R.cs; have HS5 := SpAt.later HSZ.out hb5; have d0 := HS5.c0; have d1 := HS5.c1; have d2 := HS5.f0; have d3 := HS5.f1; have HR := Lib.hid (R.put (y := y) HS5 HWZ.out); have P3 := HR.out.1.cs; clear hb5 R HS5)))
    · clear P0 P1 P2 P3 c0 c1 HO HZ HSZ HWZ
      generalize w5.alloc (.cells #[.int .i64 y.1, .int .i64 y.2] 36) = W5 at *
      go_wp2_with fail
      go_meet
      exact ⟨_, rfl, HR⟩
    · clear P0 P1 P2 P3 c0 c1 d0 d1 d2 d3 HO HZ HSZ HWZ
      generalize (w5.setCell ⟨W.heap.size, 0, none⟩ (.int .i64 y.1)).setCell ⟨W.heap.size, 1, none⟩ (.int .i64 y.2) = W5 at *
      go_wp2_with fail
      go_meet
      exact ⟨_, rfl, HR⟩
  case rest =>
    obtain ⟨Z, rfl, HR⟩ := hcut
    clear hO HNX
    have e0 := HR.out.2.c0; have e1 := HR.out.2.c1; have e2 := HR.out.1.s.c0; have e3 := HR.out.1.s.c1
    go_upto_region 2 with fail
    go_wp2_with (go_at_call 49; (with_reducible refine (HM.out _).mono ?_); rintro e w6 ⟨rfl, hb6⟩; have H6 := HR.out.1.later hb6; have d0 := H6.z.c0; have d1 := H6.z.c1; have d2 := H6.z.f0; have d3 := H6.z.f1; have HB := Lib.hid H6.below; clear hb6 H6)
    exact bodyPost_ret (v := .agg #[.int .i64 z.1, .int .i64 z.2]) (by simp [results, Try.results21, go_sem, d0, d1]) rfl ⟨rfl, (HB.out.setCell (p := ⟨w.heap.size + 1, 0, none⟩) (by simp) _).setCell (p := ⟨w.heap.size + 1, 1, none⟩) (by simp) _⟩
end Go.Proofs.Ytekddgmmfgpehaa.hd
/-!   The law's list of all (told).
-/
namespace Go.Proofs.Ytekddgmmfgpehaa.rn
open Go.RowKit Go.Shelf aid mem rng sp
attribute [local go_sem] Oper.semAt_some
set_option linter.unusedVariables false
set_option linter.unusedSimpArgs false

/-- a list of pairs is handed back, in memory of its own -/
def Told (L : List Sp) (w : World) (e : Ending) (W' : World) : Prop :=
  ∃ v, e = .returned v ∧ W'.ownsRow w.heap.size 36 2 v L.length (spCells L) ∧ Below w.heap.size w W'
/-- between two rounds: n0: the heap's size ahead; B: the list's box -/
def ToldI (w : World) (B : Nat) (pre : List Sp) (C : Nat → Prop) (W : World) : Prop :=
  ∃ v, W.heap[B]? = some (.cells #[v] 32 (0, 0)) ∧ C B ∧ W.ownsRow w.heap.size 36 2 v pre.length (spCells pre) ∧ (∀ k, v.ownBlock = some k → C k ∧ k ≠ B) ∧ Below w.heap.size w W
theorem told_bears (w : World) (B n : Nat) (hn : w.heap.size ≤ n) : Bears n (ToldI w B) := by
  rintro s C X Y ⟨v, h1, h2, h3, h4, h5⟩ hz hs
  exact ⟨v, hs.heap (.inr h2) h1, h2, own_step h3 (fun k o hk ho => hs.heap (.inr (h4 k hk).1) ho), h4, h5.trans (hs.below (by omega) (fun k hk => .inl (by omega)))⟩
/-- a round's end -/
theorem told_next {w X X1 w1 : World} {B : Nat} {pre : List Sp} {x : Sp} {C : Nat → Prop} {v v' : Value} (h1 : X.heap[B]? = some (.cells #[v] 32 (0, 0))) (h2 : C B) (h4 : ∀ k, v.ownBlock = some k → C k ∧ k ≠ B) (h5 : Below w.heap.size w X)
    (hb : w.heap.size ≤ B) (hX : X1 = X.alloc (.cells #[.int .i64 x.1, .int .i64 x.2] 36))
    (ho : w1.ownsRow w.heap.size 36 2 v' (pre.length + 1) (spCells pre ++ [.int .i64 x.1, .int .i64 x.2])) (hg : X1.grownBy w1 v.ownBlock) (hw : v'.ownBlock = v.ownBlock ∨ v'.ownBlock = some X1.heap.size)
    (hvb : ∀ k, v.ownBlock = some k → w.heap.size ≤ k) :
    ∃ C', Round C X C' (w1.setCell ⟨B, 0, none⟩ v') ∧ ToldI w B (pre ++ [x]) C' (w1.setCell ⟨B, 0, none⟩ v') := by
  have hz : X1.heap.size = X.heap.size + 1 := by rw [hX]; simp
  have b1 : Below X.heap.size X X1 := by rw [hX]; exact bal (w := X) _
  have hBX := lt_of_block h1
  have nB : v.ownBlock ≠ some B := fun e => (h4 B e).2 rfl
  have hB1 : w1.heap[B]? = some (.cells #[v] 32 (0, 0)) := (hg.block B (by omega) (fun e => nB e.symm)).trans ((b1.block B hBX).trans h1)
  have hzz : (w1.setCell ⟨B, 0, none⟩ v').heap.size = w1.heap.size := by simp
  have s1 : rng.Steps (fun k => ¬ C k) X (w1.setCell ⟨B, 0, none⟩ v') := by
    refine ((rng.Steps.of_below b1 _).trans (B := X1) ?_).trans (rng.Steps.setCell _ _ _ _ (fun e => e h2))
    exact ⟨hg.os, hg.tape, hg.output, hg.size, fun k hk hn => hg.block k hk (fun e => hn (h4 k e.symm).1)⟩
  refine ⟨fun k => C k ∨ (X.heap.size ≤ k ∧ k < w1.heap.size), ⟨s1, fun k hk => by rw [hzz]; exact hk⟩, v', (heap_setCell_same _ B 0 _ _ _ hB1).trans rfl, .inl h2, ?_, ?_, ?_⟩
  · rw [List.length_append, List.length_singleton, spCells_snoc]
    refine own_step ho (fun k o hk hko => (Below.heap_setCell w1 ⟨B, 0, none⟩ v' k ?_).trans hko)
    rintro rfl
    rcases hw with e | e
    · exact nB (e ▸ hk)
    · rw [e] at hk; cases hk; omega
  · intro k hk
    rcases hw with e | e
    · rw [e] at hk; exact ⟨.inl (h4 k hk).1, (h4 k hk).2⟩
    · rw [e] at hk
      cases hk
      have := (own_in ho e).1
      exact ⟨.inr ⟨by omega, by omega⟩, by omega⟩
  · refine ((h5.trans (b1.mono h5.size)).trans ?_).setCell (by simpa using hb) _
    exact ⟨hg.os, hg.tape, hg.output, hg.size, fun k hk => hg.block k (by have := h5.size; omega) (fun e => by have := hvb k e.symm; omega)⟩

end Go.Proofs.Ytekddgmmfgpehaa.rn
/-!   All that an iterator tells, as a list: the library's Collect.
-/
namespace Go.Proofs.Ytekddgmmfgpehaa.rn
open Go.RowKit Go.Shelf aid mem rng sp
attribute [local go_sem] Oper.semAt_some
set_option linter.unusedVariables false
set_option linter.unusedSimpArgs false

set_option maxRecDepth 100000 in
set_option maxHeartbeats 4000000 in
theorem appendseq_any {w : World} {g : Nat} {lb : Array Value} {L : List Sp} {A : Nat → Prop} (hseq : SeqOf Try.prog g lb spE L A w) (eg : ∀ args w, (callFunc g args).run Try.prog w = .ok (.enter g args) w) (hn : L.length ≤ 10000) :
    Calls Try.prog 50 #[.slice none 0 0, .func (.func g) #[] lb] w (rn.Told L w) := by
  have hb1 := bal (w := w) (.cells #[.slice none 0 0] 32)
  have hbox := heap_alloc_new w (.cells #[.slice none 0 0] 32)
  refine (callsIn_wide (n := 6)).1 ?_
  refine callsIn_of_wp_marks Try.func50 rfl trivial ?_ rfl
  simp only [Try.ntmps50, List.size_toArray, List.length_cons, List.length_nil, Nat.reduceAdd, Nat.reduceSub, Array.replicate_succ, Array.replicate_zero, List.push_toArray, List.append_toArray, List.nil_append, List.cons_append]
  obtain ⟨w2, hw2⟩ : ∃ w2, w2 = w.alloc (.cells #[.slice none 0 0] 32) := ⟨_, rfl⟩
  have hz2 : w2.heap.size = w.heap.size + 1 := by rw [hw2]; simp
  rw [← hw2] at hb1 hbox
  obtain ⟨A0, hA0⟩ : ∃ A0 : Nat → Prop, A0 = fun k => k = w.heap.size := ⟨_, rfl⟩
  have HA0 : A0 w.heap.size := by rw [hA0]
  have HSEQ := Lib.hid (hseq.later hb1 (A' := A0) (fun k hk => .inr (by rw [hA0] at hk; omega)))
  have HBW2 := Lib.hid hb1
  have HBOX2 := Lib.hid hbox
  have HLN := Lib.hid hn
  clear hb1 hbox hseq hn hA0
  gi_wp2
  rw [← hw2]
  refine wpIn_rangeBox (fun (b : Nat) (y : Sp) (t : Array Value) => (t.setIfInBounds 7 (spV y)).setIfInBounds 5 (.pointer (some ⟨b, 0, none⟩))) (gf := g) (lb := lb) (L := L) (A := A0) (w0 := w2) (encs := spE) rfl eg HSEQ.out (Below.refl _ _) (fun _ => rfl)
    (ToldI w w.heap.size) NoX (fun k => k = w.heap.size) ?hc0 (told_bears _ _ _ (by omega)) (nox_bears _) ?h0 (fun b y C X => SpAt X b y ∧ w2.heap.size ≤ b ∧ C b ∧ (∃ v0, X.heap[w.heap.size]? = some (.cells #[v0] 32 (0, 0)) ∧ v0.ownBlock ≠ some b)) ?hB ?assign ?body ?done ?stop
  case hc0 => rintro k rfl; exact ⟨.inl HA0, by omega⟩
  case h0 => exact ⟨.slice none 0 0, HBOX2.out, rfl, World.ownsRow_nil _ _ _ _, (fun k hk => by cases hk), HBW2.out⟩
  case hB =>
    rintro b y _ C X Y ⟨h1, h2, h3, v0, h4, h5⟩ hz hs
    exact ⟨hs.heap (.inr h3) h1, h2, h3, v0, hs.heap (.inl (by omega)) h4, h5⟩
  case assign =>
    rintro l' pre y C X K ⟨v, h1, h2, h3, h4, h5⟩ hp hc hz hK
    have b1 := bal (w := X) (.cells #[.int .i64 y.1, .int .i64 y.2] 36)
    have h1' := (b1.block _ (lt_of_block h1)).trans h1
    have HK := Lib.hid (hK X.heap.size (fun k => C k ∨ k = X.heap.size) _ ⟨Steps.of_below b1 _, fun k hk => by rcases hk with hk | rfl; exact .inl hk; exact .inr ⟨Nat.le_refl _, by simp⟩⟩
      ⟨v, h1', .inl h2, own_later h3 b1, fun k hk => ⟨.inl (h4 k hk).1, (h4 k hk).2⟩, h5.trans (b1.mono h5.size)⟩ ⟨sp_new X y, hz, .inr rfl, v, h1', fun e => by have := (own_in h3 e).1; omega⟩)
    clear hK h1 h1' h2 h3 h4 h5 hp hc b1
    gi_wp2
    exact HK.out
  case body =>
    rintro l' pre x b C X ⟨v, h1, h2, h3, h4, h5⟩ ⟨hyb, hb, hcb, v0, hv0, hvb0⟩ hp hcc hz
    obtain ⟨i0, hi, hz0, hz1, hz2⟩ := info_split info_span
    have hlen : pre.length < 1000000 := by
      have := hp.length_le
      have h6 := HLN.out
      rw [List.length_append, List.length_singleton] at this
      omega
    have cB := (cell_of_row X w.heap.size 0 _ _ (0, 0) h1).trans rfl
    have e0 := hyb.c0; have e1 := hyb.c1
    have hsrc := span_src X x
    have own2 := own_later h3 (bal (w := X) (.cells #[.int .i64 x.1, .int .i64 x.2] 36))
    have d1 := kcell (bal (w := X) (.cells #[.int .i64 x.1, .int .i64 x.2] 36)) cB
    have HN := Lib.hid (fun (w1 : World) (v' : Value) => told_next (w := w) (X := X) (w1 := w1) (pre := pre) (x := x) (v' := v') h1 h2 h4 h5 (Nat.le_refl _) rfl)
    have hvb := fun k hk => (own_in h3 (k := k) hk).2
    have HV := Lib.hid hvb
    have HO := Lib.hid own2
    have HSRC := Lib.hid hsrc
    have H1 := Lib.hid h1
    have H4 := Lib.hid h4
    clear h1 h2 h3 h4 h5 hp hcc hvb own2 hsrc HSEQ HBOX2 HBW2 hv0 hvb0 hyb hcb hb
    simp only [List.setIfInBounds_toArray, List.set_cons_zero, List.set_cons_succ]
    gi_wp2_with (gi_at_builtin; refine wpListIn_append_sz _ rfl (.tmp 8) (.tmp 10) 32 32 rfl w.heap.size 36 i0 (.agg #[.int .i64 0, .int .i64 0]) 2 16 Try.underlying32 hi hz0 hz1 (by decide) hz2 rfl v pre.length (spCells pre) rfl HO.out _ rfl 1 [.int .i64 x.1, .int .i64 x.2] HSRC.out (by unfold maxLen; omega) (by omega) (by simp; omega) ?_)
    intro a' cap' w1 ho hg hw
    obtain ⟨C', hr, hg'⟩ := HN.out w1 _ ho hg (by simpa using hw) HV.out
    have HF := Lib.hid (fun (aa : Act) => show rPost (ToldI w w.heap.size) NoX (pre ++ [x]) C X .normal aa _ from ⟨C', hr, hg'⟩)
    have hB1 : w1.heap[w.heap.size]? = some (.cells #[v] 32 (0, 0)) := (hg.block w.heap.size (by simp; have := lt_of_block H1.out; omega) (fun e => (H4.out _ e.symm).2 rfl)).trans ((bal (w := X) (.cells #[.int .i64 x.1, .int .i64 x.2] 36)).block _ (lt_of_block H1.out) |>.trans H1.out)
    have g0 : w1.cell? ⟨w.heap.size, 0, none⟩ = some v := (cell_of_row w1 w.heap.size 0 _ _ (0, 0) hB1).trans rfl
    have g1 : w1.frozen? ⟨w.heap.size, 0, none⟩ = false := by simp [World.frozen?, hB1]
    clear hB1 ho hg hw HO HSRC HN HV H1 H4 cB d1 e0 e1 hr hg'
    gi_wp2
    exact HF.out _
  case done =>
    rintro D C X hD hCD ⟨v, h1, h2, h3, h4, h5⟩ hK
    have cB := (cell_of_row X w.heap.size 0 _ _ (0, 0) h1).trans rfl
    have nD : ∀ k, v.ownBlock = some k → k ≠ D := by rintro k hk rfl; exact hCD (h4 _ hk).1
    have hf : (X.putObj D (.deferred none)).ownsRow w.heap.size 36 2 v (L).length (spCells (L)) := own_step h3 (fun k o hk ho => (World.putObj_heap_other (nD k hk)).trans ho)
    have hb' : Below w.heap.size w (X.putObj D (.deferred none)) := h5.trans ((rng.Steps.putObj (fun k => k < w.heap.size) X D _ (by omega)).below (n := w.heap.size) h5.size (fun k hk => hk))
    have HF := Lib.hid (show rn.Told (L) w (.returned v) (X.putObj D (.deferred none)) from ⟨v, rfl, hf, hb'⟩)
    clear h1 h2 h3 h4 h5 nD hf hb' HSEQ HBOX2 HBW2
    gi_wp2
    refine ⟨by simp, .inl ⟨_, _, rfl, run_takeDeferred hK, ?_⟩⟩
    exact ⟨v, by simp [results, Try.results50, go_sem], HF.out⟩
  case stop =>
    rintro D c pre C X _ _ h _
    exact h.elim
theorem collect_any {w : World} {g : Nat} {lb : Array Value} {L : List Sp} {A : Nat → Prop} (hseq : SeqOf Try.prog g lb spE L A w) (eg : ∀ args w, (callFunc g args).run Try.prog w = .ok (.enter g args) w) (hn : L.length ≤ 10000) :
    Calls Try.prog 22 #[.func (.func g) #[] lb] w (rn.Told L w) := by
  have HA := Lib.hid (appendseq_any hseq eg hn)
  clear hseq eg hn
  go_enter Try.func22, Try.ntmps22
  go_wp2_with (go_at_call 50; (with_reducible refine HA.out.mono ?_); rintro e w3 ⟨v, rfl, ho, hb⟩; have HO := Lib.hid ho; clear ho)
  go_ret
  exact ⟨v, rfl, HO.out, hb⟩
end Go.Proofs.Ytekddgmmfgpehaa.rn
/-!   Package heard: Take.
-/
namespace Go.Proofs.Ytekddgmmfgpehaa.hd
open Go.RowKit aid mem sp rn
attribute [local go_sem ↓] Go.wp_at_zero Go.wp_at_succ
set_option linter.unusedVariables false
set_option linter.unusedSimpArgs false

abbrev tdC (t : Td) : Array Value := #[.int .i64 t.s.1, .int .i64 t.s.2, .int .i64 t.fresh, .bool (decide (0 < lenI t.dup)), .int .i64 t.dup.1, .int .i64 t.dup.2]
abbrev tdO (t : Td) : Obj := .cells (tdC t) 38
abbrev tdZ : Obj := .cells #[.int .i64 0, .int .i64 0, .int .i64 0, .bool false, .int .i64 0, .int .i64 0] 38
theorem tdz : tdC ⟨(0, 0), 0, (0, 0)⟩ = #[.int .i64 0, .int .i64 0, .int .i64 0, .bool false, .int .i64 0, .int .i64 0] := by
  have : decide (0 < lenI (0, 0)) = false := by decide
  unfold tdC
  simp only [this]
abbrev T6 (b : Nat) (cs : Array Value) (W : World) : Prop := W.cell? ⟨b, 0, none⟩ = cs[0]? ∧ W.cell? ⟨b, 1, none⟩ = cs[1]? ∧ W.cell? ⟨b, 2, none⟩ = cs[2]? ∧ W.cell? ⟨b, 3, none⟩ = cs[3]? ∧ W.cell? ⟨b, 4, none⟩ = cs[4]? ∧ W.cell? ⟨b, 5, none⟩ = cs[5]?
theorem t6_z {W : World} {b : Nat} (h : W.heap[b]? = some tdZ) : (W.cell? ⟨b, 0, none⟩ = some (.int .i64 0) ∧ W.cell? ⟨b, 1, none⟩ = some (.int .i64 0) ∧ W.cell? ⟨b, 2, none⟩ = some (.int .i64 0) ∧ W.cell? ⟨b, 3, none⟩ = some (.bool false) ∧ W.cell? ⟨b, 4, none⟩ = some (.int .i64 0) ∧ W.cell? ⟨b, 5, none⟩ = some (.int .i64 0)) ∧
    W.frozen? ⟨b, 0, none⟩ = false ∧ W.frozen? ⟨b, 1, none⟩ = false ∧ W.frozen? ⟨b, 2, none⟩ = false ∧ W.frozen? ⟨b, 3, none⟩ = false ∧ W.frozen? ⟨b, 4, none⟩ = false ∧ W.frozen? ⟨b, 5, none⟩ = false :=
  ⟨⟨cofr h 0 _ rfl, cofr h 1 _ rfl, cofr h 2 _ rfl, cofr h 3 _ rfl, cofr h 4 _ rfl, cofr h 5 _ rfl⟩, fofr h 0, fofr h 1, fofr h 2, fofr h 3, fofr h 4, fofr h 5⟩
abbrev put6 (b : Nat) (v0 v1 v2 v3 v4 v5 : Value) (W : World) : World := (((((W.setCell ⟨b, 0, none⟩ v0).setCell ⟨b, 1, none⟩ v1).setCell ⟨b, 2, none⟩ v2).setCell ⟨b, 3, none⟩ v3).setCell ⟨b, 4, none⟩ v4).setCell ⟨b, 5, none⟩ v5
theorem put6_kept (b : Nat) (v0 v1 v2 v3 v4 v5 : Value) (W : World) : Kept [b] W (put6 b v0 v1 v2 v3 v4 v5 W) :=
  ((((((Kept.refl [b] W).setCell (.inl (by simp)) _).setCell (.inl (by simp)) _).setCell (.inl (by simp)) _).setCell (.inl (by simp)) _).setCell (.inl (by simp)) _).setCell (.inl (by simp)) _
/-- behind a call that may change it -/
def RetK (v : Value) (B : Nat) (m : Hb) (x' : Hd) (w : World) (e : Ending) (w' : World) : Prop := e = .returned v ∧ ∃ m', HdAt w' B m' x' ∧ Kept (B :: parts m) w w' ∧ ∀ b ∈ parts m', b ∈ parts m ∨ w.heap.size ≤ b
/-- the boxes of Take, ahead of the change -/
structure TK (w : World) (B : Nat) (m : Hb) (x : Hd) (b8 : Nat) (s : Sp) (W : World) : Prop where
  h : HdAt W B m x
  r : W.heap[w.heap.size]? = some tdZ
  s : SpAt W b8 s
  below : Below w.heap.size w W
  b8 : w.heap.size < b8
  lt : ∀ b ∈ B :: parts m, b < w.heap.size
theorem TK.later {w W W' : World} {B b8 : Nat} {m : Hb} {x : Hd} {s : Sp} (h : TK w B m x b8 s W) (hb : Below W.heap.size W W') : TK w B m x b8 s W' :=
  ⟨h.h.later hb, (hb.block _ (lt_of_block h.r)).trans h.r, h.s.later hb, h.below.trans (hb.mono h.below.size), h.b8, h.lt⟩
/-- a zero box that a region makes anywhere -/
structure GS (W0 W : World) : Prop where
  z : SpAt W W0.heap.size (0, 0)
  below : Below W0.heap.size W0 W
theorem gs_new (W0 : World) {W : World} (hb : Below (W0.alloc (.cells #[.int .i64 0, .int .i64 0] 36)).heap.size (W0.alloc (.cells #[.int .i64 0, .int .i64 0] 36)) W) : GS W0 W :=
  have b0 := bal (w := W0) (.cells #[.int .i64 0, .int .i64 0] 36)
  ⟨(sp_new W0 (0, 0)).later hb, b0.trans (hb.mono b0.size)⟩
theorem gs_newd (W0 : World) {W : World} (hb : Below (W0.alloc (.cells #[.int .i64 0, .int .i64 0] 36)).drew.heap.size (W0.alloc (.cells #[.int .i64 0, .int .i64 0] 36)).drew W) : GS W0 W := gs_new W0 ((Below.refl _ _).drew.trans hb)
theorem GS.later {W0 W W' : World} (h : GS W0 W) (hb : Below W.heap.size W W') : GS W0 W' := ⟨h.z.later hb, h.below.trans (hb.mono h.below.size)⟩
/-- the list of what is missing, beside it -/
structure TG (w : World) (B : Nat) (m : Hb) (x : Hd) (b8 : Nat) (s : Sp) (Z : Nat) (d : Sp) (a : Option Addr) (c : Nat) (G : List Sp) (W : World) : Prop where
  t : TK w B m x b8 s W
  d : SpAt W Z d
  z : w.heap.size < Z
  row : SlR W 36 2 a G.length c (spCells G)
  far : ∀ b ∈ blk a c, w.heap.size < b
abbrev RetG (G : List Sp) (w : World) (e : Ending) (w' : World) : Prop := ∃ lb, e = .returned (.func (.func 51) #[] lb) ∧ rng.SeqOf Try.prog 51 lb spE G (fun _ => False) w' ∧ Below w.heap.size w w'
theorem hgaps {w : World} {B : Nat} {m : Hb} {x : Hd} (h : HdAt w B m x) (hz : x.l.length ≤ 4096) (s : Sp) : Calls Try.prog 23 #[.pointer (some ⟨m.H, 0, none⟩), .agg #[.int .i64 s.1, .int .i64 s.2]] w (RetG (gapsL x.l s) w) := by
  obtain ⟨a, n, cap, hr, e, _⟩ := h.own.rv
  exact gaps_any hr h.ok.l (by omega) s _ (fun k hk => hk.elim) (fun b _ hk => hk.elim)
def TkP (w : World) (B : Nat) (m : Hb) (x : Hd) (num : Int) (p : List Int) (e : Ending) (w' : World) : Prop := RetK (.tuple #[.agg (tdC (td x num p.length)), .int .i64 (pl x num p.length).1]) B m (tk x num p) w e w'
set_option maxRecDepth 100000 in
set_option maxHeartbeats 4000000 in
theorem take_bad {w : World} {B : Nat} {m : Hb} {x : Hd} (h : HdAt w B m x) (hz : nx x.l ≤ 1000000000) (num : Int) (hnum : 0 ≤ num ∧ num ≤ 4294967295) {a : Option Addr} {n cap : Nat} {p : List Int} (hpl : p.length = n) (hn : n ≤ 9223372036854775807) (hp : ¬ (pl x num n).1 = 0) :
    Calls Try.prog 9 #[.pointer (some ⟨B, 0, none⟩), .int .u32 num, .slice a n cap] w (TkP w B m x num p) := by
  have e1 : td x num p.length = ⟨(0, 0), 0, (0, 0)⟩ := by rw [hpl]; unfold td; rw [if_neg hp]
  have e2 : tk x num p = x := by unfold tk; rw [hpl, if_neg hp]
  unfold TkP
  rw [e1, e2, tdz, hpl]
  clear e1 e2
  have hb := bal (w := w) tdZ
  have hA := h.later hb
  have hr := heap_alloc_new w tdZ
  have HPL := Lib.hid (place_any hA num hnum n hn hz)
  generalize pl x num n = r at *
  go_enter Try.func9, Try.ntmps9
  clear h
  go_upto_region 2 with (go_at_call 20; (with_reducible refine HPL.out.mono ?_); rintro e w1 ⟨rfl, hb1⟩)
  have b2 := bal (w := w1) (.cells #[.int .i64 r.2.1, .int .i64 r.2.2] 36)
  have hb12 := hb1.trans (b2.mono hb1.size)
  have hA2 := hA.later hb12
  have hr2 := (hb12.block _ (lt_of_block hr)).trans hr
  have hbW := hb.trans (hb12.mono hb.size)
  clear hb12 hb1 b2 hA hr hb HPL
  generalize w1.alloc (.cells #[.int .i64 r.2.1, .int .i64 r.2.2] 36) = W at *
  obtain ⟨⟨c0, c1, c2, c3, c4, c5⟩, f0, f1, f2, f3, f4, f5⟩ := t6_z hr2
  go_wp2_with fail
  have hk6 := put6_kept w.heap.size (.int .i64 0) (.int .i64 0) (.int .i64 0) (.bool false) (.int .i64 0) (.int .i64 0) W
  refine bodyPost_ret (v := .tuple #[.agg #[.int .i64 0, .int .i64 0, .int .i64 0, .bool false, .int .i64 0, .int .i64 0], .int .i64 r.1]) (by simp [results, Try.results9, go_sem, c0, c1, c2, c3, c4, c5]) rfl ⟨rfl, m, ?_, ?_, fun b hb => .inl hb⟩
  · exact hA2.keep hk6 (fun b hb e => by
      simp at e
      subst e
      exact hA2.typ hr2 (by decide) (by decide) (by decide) (by decide) hb)
  · exact Kept.of_below (hbW.trans (hk6.below (B := w.heap.size) (by simp) hbW.size)) (Nat.le_refl _) _
theorem TK.put {w W : World} {B b8 Z : Nat} {m : Hb} {x : Hd} {s t y : Sp} (h : TK w B m x b8 s W) (ht : SpAt W Z t) (hZ : w.heap.size < Z) (hne : b8 ≠ Z) :
    TK w B m x b8 s ((W.setCell ⟨Z, 0, none⟩ (.int .i64 y.1)).setCell ⟨Z, 1, none⟩ (.int .i64 y.2)) ∧ SpAt ((W.setCell ⟨Z, 0, none⟩ (.int .i64 y.1)).setCell ⟨Z, 1, none⟩ (.int .i64 y.2)) Z y ∧ Kept [Z] W ((W.setCell ⟨Z, 0, none⟩ (.int .i64 y.1)).setCell ⟨Z, 1, none⟩ (.int .i64 y.2)) := by
  obtain ⟨h1, h2⟩ := put2 (t := y) ht
  exact ⟨⟨h.h.keep h2 (fun b hb e => by have := h.lt b hb; simp at e; omega), h2.heap (by simp; omega) h.r, h2.heap (by simpa using hne) h.s, h.below.trans (h2.below (by simp; omega) h.below.size), h.b8, h.lt⟩, h1, h2⟩
/-- a box made last -/
theorem tg_last {w W : World} {B b8 : Nat} {m : Hb} {x : Hd} {s d : Sp} {a : Option Addr} {c : Nat} {G : List Sp} (h : TK w B m x b8 s W) (hrow : SlR W 36 2 a G.length c (spCells G)) (far : ∀ b ∈ blk a c, w.heap.size < b) :
    TG w B m x b8 s W.heap.size d a c G (W.alloc (.cells #[.int .i64 d.1, .int .i64 d.2] 36)) :=
  ⟨h.later (bal _), sp_new W d, lt_of_block h.r, hrow.later (bal _), far⟩
/-- a box made earlier -/
theorem tg_put {w W V : World} {B b8 : Nat} {m : Hb} {x : Hd} {s d : Sp} {a : Option Addr} {c : Nat} {G : List Sp} (h : TK w B m x b8 s W) (g : GS V W) (hV : w.heap.size < V.heap.size ∧ b8 < V.heap.size) (hrow : SlR W 36 2 a G.length c (spCells G)) (far : ∀ b ∈ blk a c, w.heap.size < b ∧ b ≠ V.heap.size) :
    TG w B m x b8 s V.heap.size d a c G ((W.setCell ⟨V.heap.size, 0, none⟩ (.int .i64 d.1)).setCell ⟨V.heap.size, 1, none⟩ (.int .i64 d.2)) :=
  have hp := h.put (y := d) g.z hV.1 (by omega)
  ⟨hp.1, hp.2.1, hV.1, hrow.keep hp.2.2 (fun b hb e => by simp at e; exact (far b hb).2 e), fun b hb => (far b hb).1⟩
theorem TK.far {w W : World} {B b8 : Nat} {m : Hb} {x : Hd} {s : Sp} (h : TK w B m x b8 s W) {b : Nat} (hb : W.heap.size ≤ b) : w.heap.size < b := Nat.lt_of_lt_of_le (lt_of_block h.r) hb
theorem TK.two {w W : World} {B b8 : Nat} {m : Hb} {x : Hd} {s : Sp} (h : TK w B m x b8 s W) : w.heap.size < W.heap.size ∧ b8 < W.heap.size := ⟨lt_of_block h.r, lt_of_block h.s⟩
theorem gs_far {V W : World} (g : GS V W) {b : Nat} (hb : W.heap.size ≤ b) : b ≠ V.heap.size := by have := lt_of_block g.z; omega
theorem gs_far2 {W : World} {o : Obj} {b : Nat} (hb : (W.alloc o).heap.size ≤ b) : b ≠ W.heap.size := by simp at hb; omega
abbrev C3 (B b8 : Nat) (m : Hb) (s : Sp) (V : World) : Prop := V.cell? ⟨B, 3, none⟩ = some (.pointer (some ⟨m.H, 0, none⟩)) ∧ V.cell? ⟨b8, 0, none⟩ = some (.int .i64 s.1) ∧ V.cell? ⟨b8, 1, none⟩ = some (.int .i64 s.2)
theorem TK.c3 {w W : World} {B b8 : Nat} {m : Hb} {x : Hd} {s : Sp} (h : TK w B m x b8 s W) : C3 B b8 m s W := ⟨h.h.cs.2.2.2, h.s.c0, h.s.c1⟩
end Go.Proofs.Ytekddgmmfgpehaa.hd
/-!   Package heard: Take, behind the change of its spans.
-/
namespace Go.Proofs.Ytekddgmmfgpehaa.hd
open Go.RowKit aid mem sp rn
attribute [local go_sem ↓] Go.wp_at_zero Go.wp_at_succ
set_option linter.unusedVariables false
set_option linter.unusedSimpArgs false

/-- Take behind Add: the spans are new, the ring is written, the text is as it was -/
structure MK (w : World) (B : Nat) (m : Hb) (x : Hd) (b8 : Nat) (s : Sp) (Z : Nat) (d : Sp) (a : Option Addr) (c : Nat) (G l' : List Sp) (SH' : List Nat) (R : List Int) (W : World) : Prop where
  hdr : W.heap[B]? = some (.cells (cellsH x m) 63 (0, 0))
  own : rn.Own m.H l' SH' W
  ring : RgAt W m.g R m.T
  text : BRow W m.a (nx x.l).toNat m.cap (txt x)
  gt : m.g ∉ blk m.a m.cap
  r : W.heap[w.heap.size]? = some tdZ
  s : SpAt W b8 s
  d : SpAt W Z d
  row : SlR W 36 2 a G.length c (spCells G)
  kp : Kept (B :: parts m) w W
  new : ∀ b ∈ SH', b ∈ m.SH ∨ w.heap.size ≤ b
abbrev C4 (B : Nat) (m : Hb) (x : Hd) (W : World) : Prop := W.cell? ⟨B, 2, none⟩ = some (.slice (some ⟨m.g, 0, none⟩) x.room m.rc) ∧ W.cell? ⟨B, 3, none⟩ = some (.pointer (some ⟨m.H, 0, none⟩))
section
variable {w W W' : World} {B : Nat} {m : Hb} {x : Hd} {b8 : Nat} {s : Sp} {Z : Nat} {d : Sp} {a : Option Addr} {c : Nat} {G l' : List Sp} {SH' : List Nat} {R R' : List Int}
theorem mk_of (h : TG w B m x b8 s Z d a c G W) (hR : RgAt W m.g R m.T) (ho : rn.Own m.H l' SH' W') (hk : Kept m.SH W W') (hn : ∀ b ∈ SH', b ∈ m.SH ∨ W.heap.size ≤ b) : MK w B m x b8 s Z d a c G l' SH' R W' := by
  have hnB := h.t.h.nB
  have hnS := h.t.h.nS
  have hlt := h.t.lt
  have hin : ∀ b ∈ m.SH, b < w.heap.size := fun b hb => hlt b (by simp [hb])
  have hz := h.t.below.size
  refine ⟨hk.heap (fun e => hnB (by simp [e])) h.t.h.hdr, ho, hk.heap (fun e => (hnS _ e).1 rfl) hR, h.t.h.text.keep hk (fun b hb e => (hnS b e).2 hb), h.t.h.gt, hk.heap (fun e => by have := hin _ e; omega) h.t.r, hk.heap (fun e => by have := hin _ e; have := h.t.b8; omega) h.t.s, hk.heap (fun e => by have := hin _ e; have := h.z; omega) h.d, h.row.keep hk (fun b hb e => by have := hin _ e; have := h.far b hb; omega), ?_, fun b hb => ?_⟩
  · exact (Kept.of_below h.t.below (Nat.le_refl _) (B :: parts m)).trans hk (fun b hb => .inl (by simp [hb]))
  · rcases hn b hb with e | e
    · exact .inl e
    · exact .inr (by omega)
variable (h : MK w B m x b8 s Z d a c G l' SH' R W)
include h
theorem MK.later (hb : Below W.heap.size W W') : MK w B m x b8 s Z d a c G l' SH' R W' :=
  ⟨(hb.block _ (lt_of_block h.hdr)).trans h.hdr, h.own.later hb, (hb.block _ (lt_of_block h.ring)).trans h.ring, h.text.later hb, h.gt, (hb.block _ (lt_of_block h.r)).trans h.r, h.s.later hb, h.d.later hb, h.row.later hb, h.kp.trans (Kept.of_below hb (Nat.le_refl _) []) (fun b hb => by simp at hb), h.new⟩
theorem MK.lay (hk : Kept [m.g] W W') (hr : RgAt W' m.g R' m.T) : MK w B m x b8 s Z d a c G l' SH' R' W' := by
  obtain ⟨t1, t2, t3, t4, t5⟩ := nts
  have hS : ∀ b ∈ SH', b ≠ m.g := fun b hb => by
    obtain ⟨cs, q | q⟩ := own_typ h.own b hb
    · exact fun e => typ_ne h.ring q t4 e.symm
    · exact fun e => typ_ne h.ring q t5 e.symm
  refine ⟨hk.heap (by simp; exact typ_ne h.hdr h.ring t1) h.hdr, h.own.keep hk (fun b hb => by simpa using hS b hb), hr, h.text.keep hk (fun b hb e => by simp at e; exact h.gt (e ▸ hb)), h.gt, hk.heap (by simp; exact typ_ne h.r h.ring (by decide)) h.r, hk.heap (by simp; exact typ_ne h.s h.ring (by decide)) h.s, hk.heap (by simp; exact typ_ne h.d h.ring (by decide)) h.d, h.row.keep hk (fun b hb e => ?_), h.kp.trans hk (fun b hb => .inl (by simp at hb; simp [hb])), h.new⟩
  simp at e
  subst e
  obtain ⟨_, cs, q⟩ := h.row.lt m.g hb
  exact typ_ne q h.ring (by decide) rfl
theorem MK.c4 : C4 B m x W := ⟨cofr h.hdr 2 _ rfl, cofr h.hdr 3 _ rfl⟩
theorem MK.c1 : W.cell? ⟨B, 1, none⟩ = some (.slice m.a (nx x.l).toNat m.cap) := cofr h.hdr 1 _ rfl
theorem MK.c5 : C3 B b8 m s W := ⟨cofr h.hdr 3 _ rfl, h.s.c0, h.s.c1⟩
omit h
/-- all is done but what is told -/
structure TD (w : World) (B : Nat) (m m' : Hb) (x' : Hd) (b8 : Nat) (s : Sp) (Z : Nat) (d : Sp) (W : World) : Prop where
  h : HdAt W B m' x'
  r : W.heap[w.heap.size]? = some tdZ
  s : SpAt W b8 s
  d : SpAt W Z d
  kp : Kept (B :: parts m) w W
  new : ∀ b ∈ parts m', b ∈ parts m ∨ w.heap.size ≤ b
theorem TD.later {m' : Hb} {x' : Hd} (h : TD w B m m' x' b8 s Z d W) (hb : Below W.heap.size W W') : TD w B m m' x' b8 s Z d W' :=
  ⟨h.h.later hb, (hb.block _ (lt_of_block h.r)).trans h.r, h.s.later hb, h.d.later hb, h.kp.trans (Kept.of_below hb (Nat.le_refl _) []) (fun b hb => by simp at hb), h.new⟩
theorem TD.fin {m' : Hb} {x' : Hd} (h : TD w B m m' x' b8 s Z d W) (v0 v1 v2 v3 v4 v5 : Value) : HdAt (put6 w.heap.size v0 v1 v2 v3 v4 v5 W) B m' x' ∧ Kept (B :: parts m) w (put6 w.heap.size v0 v1 v2 v3 v4 v5 W) ∧ (SpAt (put6 w.heap.size v0 v1 v2 v3 v4 v5 W) b8 s ∧ SpAt (put6 w.heap.size v0 v1 v2 v3 v4 v5 W) Z d) := by
  have hk := put6_kept w.heap.size v0 v1 v2 v3 v4 v5 W
  refine ⟨h.h.keep hk (fun b hb e => ?_), h.kp.trans hk (fun b hb => .inr (by simp at hb; omega)), hk.heap (by simp; exact typ_ne h.s h.r (by decide)) h.s, hk.heap (by simp; exact typ_ne h.d h.r (by decide)) h.d⟩
  simp at e
  subst e
  exact h.h.typ h.r (by decide) (by decide) (by decide) (by decide) hb
abbrev S4 (b8 Z : Nat) (s d : Sp) (W : World) : Prop := (W.cell? ⟨b8, 0, none⟩ = some (.int .i64 s.1) ∧ W.cell? ⟨b8, 1, none⟩ = some (.int .i64 s.2)) ∧ W.cell? ⟨Z, 0, none⟩ = some (.int .i64 d.1) ∧ W.cell? ⟨Z, 1, none⟩ = some (.int .i64 d.2)
theorem s4_of (h1 : SpAt W b8 s) (h2 : SpAt W Z d) : S4 b8 Z s d W := ⟨⟨h1.c0, h1.c1⟩, h2.c0, h2.c1⟩
/-- behind move -/
theorem mk_fin {x' : Hd} {a6 : Option Addr} {c6 : Nat} (h : MK w B m x b8 s Z d a c G x'.l SH' R W) (hf : x'.first = x.first ∧ x'.room = x.room) (hO : Ok x') (hRO : RingOk R x') (hrc : x.room ≤ m.rc ∧ m.rc ≤ maxLen)
    (hrow : BRow W' a6 (nx x'.l).toNat c6 (txt x')) (hk : Kept (blk m.a m.cap) W W') (hn : ∀ b ∈ blk a6 c6, b ∈ blk m.a m.cap ∨ W.heap.size ≤ b) :
    (C4 B m x W' ∧ W'.cell? ⟨B, 1, none⟩ = some (.slice m.a (nx x.l).toNat m.cap) ∧ W'.frozen? ⟨B, 1, none⟩ = false) ∧ C4 B m x (W'.setCell ⟨B, 1, none⟩ (.slice a6 (nx x'.l).toNat c6)) ∧
    TD w B m { m with SH := SH', a := a6, cap := c6 } x' b8 s Z d (W'.setCell ⟨B, 1, none⟩ (.slice a6 (nx x'.l).toNat c6)) := by
  obtain ⟨t1, t2, t3, t4, t5⟩ := nts
  have hB : B ∉ blk m.a m.cap := fun e => by
    obtain ⟨_, cs, q⟩ := h.text.lt B e
    exact typ_ne h.hdr q t1 rfl
  have hh := hk.heap hB h.hdr
  have hS : ∀ b ∈ SH', b ∉ blk m.a m.cap := fun b hb e => by
    obtain ⟨_, cs, q⟩ := h.text.lt b e
    obtain ⟨ds, qq | qq⟩ := own_typ h.own b hb
    · exact typ_ne q qq t4 rfl
    · exact typ_ne q qq t5 rfl
  have hty : ∀ {b : Nat} {cs : Array Value} {T : TypeId}, W.heap[b]? = some (.cells cs T (0, 0)) → T ≠ 5 → b ∉ blk m.a m.cap := fun hb hT e => by
    obtain ⟨_, cs, q⟩ := h.text.lt _ e
    exact typ_ne hb q hT rfl
  have e0 := heap_setCell_same W' B 1 _ _ (.slice a6 (nx x'.l).toNat c6) hh
  have hks : Kept [B] W' (W'.setCell ⟨B, 1, none⟩ (.slice a6 (nx x'.l).toNat c6)) := (Kept.refl [B] W').setCell (.inl (by simp)) _
  have hown := h.own.keep hk hS
  have hring := hk.heap h.gt h.ring
  have hr1 := hk.heap (hty h.r (by decide)) h.r
  have hs1 := hk.heap (hty h.s (by decide)) h.s
  have hd1 := hk.heap (hty h.d (by decide)) h.d
  have hBS : ∀ b ∈ SH', b ≠ B := fun b hb e => by
    subst e
    obtain ⟨ds, qq | qq⟩ := own_typ h.own b hb
    · exact typ_ne h.hdr qq t2 rfl
    · exact typ_ne h.hdr qq t3 rfl
  have hBr : ∀ b ∈ blk a6 c6, b ≠ B := fun b hb e => by
    subst e
    obtain ⟨_, cs, q⟩ := hrow.lt b hb
    exact typ_ne hh q t1 rfl
  refine ⟨⟨⟨cofr hh 2 _ rfl, cofr hh 3 _ rfl⟩, cofr hh 1 _ rfl, fofr hh 1⟩, ⟨cofr e0 2 _ rfl, cofr e0 3 _ rfl⟩, ⟨?_, hks.heap (by simp; exact typ_ne hr1 hh (by decide)) hr1, hks.heap (by simp; exact typ_ne hs1 hh (by decide)) hs1, hks.heap (by simp; exact typ_ne hd1 hh (by decide)) hd1, ?_, ?_⟩⟩
  · refine ⟨?_, hown.keep hks (fun b hb => by simpa using hBS b hb), ⟨R, hks.heap (by simp; exact Ne.symm (typ_ne hh hring t1)) hring, hRO⟩, hrow.keep hks (fun b hb => by simpa using hBr b hb), hO, by rw [hf.2]; exact hrc, ?_⟩
    · unfold cellsH
      rw [e0, hf.1, hf.2]
      rfl
    · intro e
      rcases hn _ e with q | q
      · exact h.gt q
      · have := lt_of_block h.ring
        have q' : W.heap.size ≤ m.g := q
        omega
  · exact (h.kp.trans hk (fun b hb => .inl (by simp [hb]))).trans hks (fun b hb => .inl (by simp at hb; simp [hb]))
  · intro b hb
    simp only [List.mem_cons, List.mem_append] at hb ⊢
    rcases hb with rfl | hb | hb
    · exact .inl (.inl rfl)
    · rcases h.new b hb with q | q
      · exact .inl (.inr (.inl q))
      · exact .inr q
    · rcases hn b hb with q | q
      · exact .inl (.inr (.inr q))
      · exact .inr (Nat.le_trans h.kp.size q)
end
theorem next_c {w : World} {B : Nat} {a : Option Addr} {n cap : Nat} (c1 : w.cell? ⟨B, 1, none⟩ = some (.slice a n cap)) : Calls Try.prog 14 #[.pointer (some ⟨B, 0, none⟩)] w fun e w' => e = .returned (.int .i64 (n : Int)) ∧ w = w' := by
  go_enter Try.func14, Try.ntmps14
  go_wp2
  go_ret
  exact ⟨rfl, rfl⟩
end Go.Proofs.Ytekddgmmfgpehaa.hd
/-!   Package heard: Take. (Written by gen_hrdt.py.)
-/
namespace Go.Proofs.Ytekddgmmfgpehaa.hd
open Go.RowKit aid mem sp rn
attribute [local go_sem ↓] Go.wp_at_zero Go.wp_at_succ
set_option linter.unusedVariables false
set_option linter.unusedSimpArgs false

set_option maxRecDepth 100000 in
set_option maxHeartbeats 8000000 in
theorem take_ok {w : World} {B : Nat} {m : Hb} {x : Hd} (h : HdAt w B m x) (hz : nx x.l ≤ 1000000000) (hl : x.l.length ≤ 4000) (num : Int) (hnum : 0 ≤ num ∧ num ≤ 4294967295) {ba : Option Addr} {n bcap : Nat} {p : List Int} (hp : SlA .u8 w ba n bcap p) (hd : ∀ y, ba = some y → 0 < n → y.block ∉ B :: parts m) (hpz : (pl x num n).1 = 0) :
    Calls Try.prog 9 #[.pointer (some ⟨B, 0, none⟩), .int .u32 num, .slice ba n bcap] w (TkP w B m x num p) := by
  have hpl := hp.len
  obtain ⟨q1, q2, q3, q4, q5, q6⟩ := pl_ok h.ok hpz hz
  have hb := bal (w := w) tdZ
  have hA := h.later hb
  have hr := heap_alloc_new w tdZ
  have HPL := Lib.hid (place_any hA num hnum n (by omega) hz)
  obtain ⟨s, hs⟩ : ∃ s, (pl x num n).2 = s := ⟨_, rfl⟩
  have hpe : pl x num n = (0, s) := by rw [← hs, ← hpz]
  rw [hs] at q3 q4 q5 q6
  have HFIN : Hid (∀ e W, RetK (.tuple #[.agg (tdC ⟨s, bytesL (refWi x.l s) - bytesL x.l, meetP (nextL x.l s.1) s⟩), .int .i64 0]) B m (tk x num p) w e W → TkP w B m x num p e W) := Lib.hid (fun e W q => by
    unfold TkP
    have e1 : td x num p.length = ⟨s, bytesL (refWi x.l s) - bytesL x.l, meetP (nextL x.l s.1) s⟩ := by rw [hpl]; unfold td; rw [if_pos hpz, hs]
    rw [e1, hpl, hpz]
    exact q)
  rw [hpe] at HPL
  have HON := Lib.hid (fun X b8 (q : TK w B m x b8 s X) => once_any q.h (by omega) s)
  have HGA := Lib.hid (fun X b8 (q : TK w B m x b8 s X) => hgaps q.h (by omega) s)
  have HCO := Lib.hid (fun X lb (q : rng.SeqOf Try.prog 51 lb spE (gapsL x.l s) (fun _ => False) X) => collect_any q eg_gaps (by have := gaps_len s h.ok.l; omega))
  have hlt := h.lt
  have HX := Lib.hid (And.intro h (And.intro hp hd))
  have HQ := Lib.hid (show 1 ≤ n ∧ n ≤ 2048 ∧ 0 ≤ s.1 ∧ s.2 = s.1 + n ∧ s.2 ≤ nx x.l + x.room ∧ ROk s from ⟨q1, q2, q3, q4, q5, q6⟩)
  have HPZ := Lib.hid (And.intro hpz hs)
  generalize meetP (nextL x.l s.1) s = d at *
  unfold RetG at HGA
  unfold rn.Told at HCO
  clear hs hpe hpz q1 q2 q3 q4 q5 q6 hp hd h
  go_enter Try.func9, Try.ntmps9
  go_upto_region 2 with (go_at_call 20; (with_reducible refine HPL.out.mono ?_); rintro e w1 ⟨rfl, hb1⟩)
  have F : TK w B m x w1.heap.size s (w1.alloc (.cells #[.int .i64 s.1, .int .i64 s.2] 36)) := by
    have b2 := bal (w := w1) (.cells #[.int .i64 s.1, .int .i64 s.2] 36)
    have hb12 := hb1.trans (b2.mono hb1.size)
    exact ⟨hA.later hb12, (hb12.block _ (lt_of_block hr)).trans hr, sp_new w1 s, hb.trans (hb12.mono hb.size), by have := hb1.size; simp at this; omega, hlt⟩
  have H8 := Lib.hid (show w1.heap.size < (w1.alloc (.cells #[.int .i64 s.1, .int .i64 s.2] 36)).heap.size from by simp)
  clear hb1 hA hr hb HPL
  generalize w1.alloc (.cells #[.int .i64 s.1, .int .i64 s.2] 36) = W at *
  generalize w1.heap.size = b8 at *
  go_upto_region 4 with fail
  obtain ⟨G, hG⟩ : ∃ G, gapsL x.l s = G := ⟨_, rfl⟩
  rw [hG] at HCO HGA
  have HGG := Lib.hid hG
  have HGL := Lib.hid (show G.length ≤ 10000 from by rw [← hG]; have := gaps_len s HX.out.1.ok.l; omega)
  clear hG
  have HWW := Lib.hid (show w.heap.size < W.heap.size from lt_of_block F.r)
  go_cut [10, 11] (fun s10 s11 wx => ∃ Z a c, s10 = .pointer (some ⟨Z, 0, none⟩) ∧ s11 = .slice a G.length c ∧ Hid (TG w B m x b8 s Z d a c G wx))
  case first =>
    have HWV := Lib.hid F.two
    obtain ⟨c0, c1, c2⟩ := F.c3
    have FA := F.later (bal (.cells #[.int .i64 0, .int .i64 0] 36)).drew
    have P0 := FA.c3
    replace F := F.later (Below.refl _ _).drew
    have P1 := F.c3
    go_wp2_with fail
    go_region_held3 (fun V => C3 B b8 m s V) (first | with_reducible exact P1 | with_reducible exact P0 | with_reducible exact F.c3 | with_reducible exact (F.later (bal _)).c3 | with_reducible exact (tg_put (d := d) F GG HV.out HROW.out.1 HROW.out.2).t.c3 | go_keep)
      (first
        | (go_at_call 21; first
          | ((with_reducible refine (HON.out _ _ F).mono ?_); rintro e w5 ⟨rfl, q5⟩; replace F := F.later q5; clear q5 FA)
          | ((with_reducible refine (HON.out _ _ FA).mono ?_); rintro e w5 ⟨rfl, q5⟩; have GG := gs_newd _ q5; have HV := HWV; replace F := FA.later q5; clear q5 FA; obtain z0 := GG.z.c0; obtain z1 := GG.z.c1; obtain z2 := GG.z.f0; obtain z3 := GG.z.f1))
        | (go_at_call 23; first
          | ((with_reducible refine (HGA.out _ _ F).mono ?_); rintro e w6 ⟨lb, rfl, hseq, q6⟩; have HSEQ := Lib.hid hseq; clear hseq; replace F := F.later q6; (try (replace GG := GG.later q6; clear z0 z1 z2 z3; obtain z0 := GG.z.c0; obtain z1 := GG.z.c1; obtain z2 := GG.z.f0; obtain z3 := GG.z.f1)); clear q6)
          | ((with_reducible refine (HGA.out _ _ (F.later (bal _))).mono ?_); rintro e w6 ⟨lb, rfl, hseq, q6⟩; have HSEQ := Lib.hid hseq; clear hseq; have GG := gs_new _ q6; have HV := Lib.hid F.two; replace F := (F.later (bal _)).later q6; obtain z0 := GG.z.c0; obtain z1 := GG.z.c1; obtain z2 := GG.z.f0; obtain z3 := GG.z.f1; clear q6))
        | (go_at_call 22; first
          | ((with_reducible refine (HCO.out _ lb HSEQ.out).mono ?_); rintro e w7 ⟨v, rfl, ho, q7⟩; obtain ⟨ga, gc, rfl, hrow, hfar⟩ := slr_of_own ho; first
            | (have HROW := Lib.hid (And.intro hrow (fun b hb => And.intro (F.far (hfar b hb)) (gs_far GG (hfar b hb)))); replace F := F.later q7; replace GG := GG.later q7; clear z0 z1 z2 z3 hrow hfar q7 ho; obtain z0 := GG.z.c0; obtain z1 := GG.z.c1; obtain z2 := GG.z.f0; obtain z3 := GG.z.f1)
            | (have HROW := Lib.hid (And.intro hrow (fun b hb => F.far (hfar b hb))); replace F := F.later q7; clear hrow hfar q7 ho))
          | ((with_reducible refine (HCO.out _ lb (HSEQ.out.later (bal _) (fun k hk => hk.elim))).mono ?_); rintro e w7 ⟨v, rfl, ho, q7⟩; obtain ⟨ga, gc, rfl, hrow, hfar⟩ := slr_of_own ho; have HROW := Lib.hid (And.intro hrow (fun b hb => And.intro ((F.later (bal _)).far (hfar b hb)) (gs_far2 (hfar b hb)))); have GG := gs_new _ q7; have HV := Lib.hid F.two; replace F := (F.later (bal _)).later q7; obtain z0 := GG.z.c0; obtain z1 := GG.z.c1; obtain z2 := GG.z.f0; obtain z3 := GG.z.f1; clear hrow hfar q7 ho)))
    · have HR := Lib.hid (tg_last (d := d) F HROW.out.1 HROW.out.2)
      clear F HROW HSEQ c0 c1 c2 P0 P1
      go_wp2_with fail
      go_meet
      exact ⟨_, _, _, rfl, rfl, HR⟩
    all_goals
      have HR := Lib.hid (tg_put (d := d) F GG HV.out HROW.out.1 HROW.out.2)
      clear F HROW HSEQ c0 c1 c2 P0 P1 z0 z1 z2 z3 GG
      go_wp2_with fail
      go_meet
      exact ⟨_, _, _, rfl, rfl, HR⟩
  case rest =>
    obtain ⟨Z, ga, gc, rfl, rfl, HR⟩ := hcut
    clear F HON HGA HCO HWW H8
    obtain ⟨R, hR0, hRO⟩ := HR.out.t.h.ring
    obtain ⟨h, hp, hd⟩ := HX.out
    obtain ⟨q1, q2, q3, q4, q5, q6⟩ := HQ.out
    obtain ⟨hpz, hs⟩ := HPZ.out
    have hwl := wi_len x.l s h.ok.l q6.ok
    have haddn := addN_ok h.ok.l q6.ok (by omega)
    have HAD := Lib.hid (fun X (q : HdAt X B m x) => show Calls Try.prog 24 #[.pointer (some ⟨m.H, 0, none⟩), .agg #[.int .i64 s.1, .int .i64 s.2]] X (ChgO m.H m.SH (bytesL (refWi x.l s) - bytesL x.l, 0, refWi x.l s) X) from by rw [← haddn]; exact add_own q.own q.ok.l (by omega) s)
    unfold ChgO at HAD
    have HTK := Lib.hid (show (tk x num p).l = refWi x.l s ∧ (tk x num p).first = x.first ∧ (tk x num p).room = x.room ∧ Ok (tk x num p) from by
      have htk := (tk_ok1 (num := num) (p := p) h.ok hz).1
      refine ⟨?_, ?_, ?_, htk⟩
      all_goals (unfold tk; rw [hpl, if_pos hpz])
      rw [hs])
    have hpz' : (pl x num p.length).1 = 0 := by rw [hpl]; exact hpz
    have hs' : (pl x num p.length).2 = s := by rw [hpl]; exact hs
    have HRG := Lib.hid (ring_tk h.ok hRO hpz' hz)
    rw [hs'] at HRG
    have hgb := gap_bd h.ok.l q6
    have hTXT := fun (R' : List Int) hl hR => txt_tk (R := R') h.ok hpz' hz hl hR
    have HBD := Lib.hid (show ∀ g ∈ G, ROk g ∧ s.1 ≤ g.1 ∧ g.2 ≤ s.2 from by rw [← HGG.out]; exact hgb)
    rw [HGG.out] at HRG
    have HRX := Lib.hid (show R.length = x.room ∧ 1 ≤ x.room ∧ x.room ≤ 65536 from ⟨hRO.len, h.ok.r.1, h.ok.r.2⟩)
    have HHX := Lib.hid (And.intro h.rc (nx_spec h.ok.l))
    have HTX := Lib.hid hTXT
    clear hTXT hgb hRO hpz hs hs' hwl haddn q1 q2 q3 q4 q5 q6 h
    have HTS := Lib.hid (show (tk x num p).l.length ≤ x.l.length + 1 ∧ nx (tk x num p).l ≤ nx x.l + x.room from (fun q => ⟨q.2.1, q.2.2.1⟩) (tk_ok1 (num := num) (p := p) HX.out.1.ok hz))
    generalize tk x num p = x' at *
    generalize bytesL (refWi x.l s) - bytesL x.l = fr at *
    obtain ⟨l', hl'⟩ : ∃ l', l' = refWi x.l s := ⟨_, rfl⟩
    rw [← hl'] at HAD HTK
    clear hl'
    have HLR := Lib.hid hR0
    have HBO := Lib.hid (And.intro hp hd)
    clear hR0 hp hd
    generalize wc = V at *
    obtain ⟨c0, c1, c2⟩ := HR.out.t.c3
    have P0 := (HR.out.t.later (Below.refl _ _).drew).c3
    go_wp2_with fail
    go_region_held3 (fun W => C3 B b8 m s W) (first | with_reducible exact P0 | with_reducible exact P2 | go_keep)
      ((go_at_call 24; (with_reducible refine (HAD.out _ HR.out.t.h.drew).mono ?_); rintro e w8 ⟨rfl, SH', ho, hk, hn⟩; have M8 := mk_of (⟨HR.out.t.later (Below.refl _ _).drew, HR.out.d.later (Below.refl _ _).drew, HR.out.z, HR.out.row.later (Below.refl _ _).drew, HR.out.far⟩ : TG w B m x b8 s Z d ga gc G V.drew) (show RgAt V.drew m.g R m.T from HLR.out) ho hk hn; have P2 := M8.c5; clear ho hk hn))
    clear c0 c1 c2 P0 P2 HR HLR HAD
    obtain ⟨i0, hi, hz0, hz1, hz2⟩ := info_split8
    go_upto_region 8 with fail
    go_wp2_with fail
    go_loopw [52] (fun i wr => ∃ k : Nat, k ≤ G.length ∧ i = .int .i64 k ∧ Hid (MK w B m x b8 s Z d ga gc G l' SH' (layG R s.1 p (G.take k)) wr)) (fun i _ => G.length - (intOf i).toNat)
    case atStart => exact ⟨0, Nat.zero_le _, rfl, Lib.hid M8⟩
    case round =>
      clear M8
      obtain ⟨k, hk, rfl, HM⟩ := hrel
      have hgl := HGL.out
      by_cases hlt : k < G.length
      · obtain ⟨gb, off, rfl, hcell⟩ := (sls_of HM.out.row).cells (by have := HM.out.row.le; omega)
        obtain ⟨c0, c1⟩ := hcell k hlt
        have hym : G.getD k (0, 0) ∈ G := by simp [List.getD, hlt]
        have hsn : G.take (k + 1) = G.take k ++ [G.getD k (0, 0)] := by rw [List.take_succ_eq_append_getElem hlt]; simp [List.getD, hlt]
        have HSN := Lib.hid (layG_snoc R s.1 p (G.take k) (G.getD k (0, 0)))
        rw [← hsn] at HSN
        obtain ⟨y1, y2, y3⟩ := HBD.out _ hym
        obtain ⟨q1, q2, q3, q4, q5, q6⟩ := HQ.out
        have hll := layG_len s.1 p (G.take k) R
        generalize layG R s.1 p (G.take k) = RK at *
        generalize G.getD k (0, 0) = y at *
        clear hcell hym hsn
        have y1' := y1.2.1
        have hj : (((y.1 - s.1).toNat : Nat) : Int) = y.1 - s.1 := by omega
        have hk2 : (((y.2 - s.1).toNat : Nat) : Int) = y.2 - s.1 := by omega
        have hle := HBO.out.1.le
        have hsl := run_slice_two Try.prog 24 5 i0 Try.underlying24 hi hz1 ba n bcap (y.1 - s.1).toNat (y.2 - s.1).toNat (by omega) (by omega)
        rw [hj, hk2] at hsl
        have hy0 : ((y.1.toNat : Nat) : Int) = y.1 := by have := y1.1; omega
        have HLY := Lib.hid (fun X (q : MK w B m x b8 s Z d (some ⟨gb, off, none⟩) gc G l' SH' RK X) => show Calls Try.prog 25 #[.slice (some ⟨m.g, 0, none⟩) x.room m.rc, .int .i64 y.1, .slice (if bcap = (y.1 - s.1).toNat then ba else ba.map (·.add (y.1 - s.1).toNat)) ((y.2 - s.1).toNat - (y.1 - s.1).toNat) (bcap - (y.1 - s.1).toNat)] X fun e w' => e = .returned (.tuple #[]) ∧ MK w B m x b8 s Z d (some ⟨gb, off, none⟩) gc G l' SH' (layG R s.1 p (G.take (k + 1))) w' ∧ Kept [m.g] X w' from by
          have hbk := HBO.out.1.keepIf q.kp (fun y0 hy0 _ => HBO.out.2 y0 hy0 (by omega))
          have hsa := (hbk.take (y.2 - s.1).toNat (by omega)).fromK (y.1 - s.1).toNat (by omega)
          have hla := lay_any (rc := m.rc) q.ring (hll.trans HRX.out.1) (by have := HRX.out.2.1; omega) HRX.out.2.2 y.1.toNat (by have := HRX.out.2.2; omega) hsa (fun z hz _ => map_add_block (P := fun b => b ≠ m.g) (fun z2 hz2 e => HBO.out.2 z2 hz2 (by omega) (by simp [e])) hz) (by omega)
          rw [hy0] at hla
          rw [HSN.out]
          exact hla.mono fun e w' ⟨h1, h2, h3⟩ => ⟨h1, q.lay h3 h2, h3⟩)
        generalize (if bcap = (y.1 - s.1).toNat then ba else ba.map (·.add (y.1 - s.1).toNat)) = ba2 at *
        generalize (y.2 - s.1).toNat - (y.1 - s.1).toNat = n2 at *
        generalize bcap - (y.1 - s.1).toNat = c2 at *
        have hw1 : IntKind.i64.wrap (y.1 - s.1) = y.1 - s.1 := IntWalk.i64_in _ (by omega)
        have hw2 : IntKind.i64.wrap (y.2 - s.1) = y.2 - s.1 := IntWalk.i64_in _ (by omega)
        clear hj hk2 hle hy0 hll y1 y2 y3 y1' q1 q2 q3 q4 q5 q6
        go_upto_region 11 with fail
        have M1 := HM.out.later (bal (.cells #[.int .i64 y.1, .int .i64 y.2] 36))
        have B1 := sp_new wr y
        clear c0 c1 HM
        generalize wr.alloc (.cells #[.int .i64 y.1, .int .i64 y.2] 36) = W1 at *
        generalize wr.heap.size = b14 at *
        have HS := Lib.hid (fun X (q : MK w B m x b8 s Z d (some ⟨gb, off, none⟩) gc G l' SH' RK X) (b : SpAt X b14 y) => show X.cell? ⟨B, 2, none⟩ = some (.slice (some ⟨m.g, 0, none⟩) x.room m.rc) ∧ X.cell? ⟨b14, 0, none⟩ = some (.int .i64 y.1) ∧ X.cell? ⟨b14, 1, none⟩ = some (.int .i64 y.2) ∧ X.cell? ⟨b8, 0, none⟩ = some (.int .i64 s.1) from ⟨q.c4.1, b.c0, b.c1, q.s.c0⟩)
        have HS2 := Lib.hid (fun X (q : MK w B m x b8 s Z d (some ⟨gb, off, none⟩) gc G l' SH' (layG R s.1 p (G.take (k + 1))) X) => show X.cell? ⟨B, 2, none⟩ = some (.slice (some ⟨m.g, 0, none⟩) x.room m.rc) ∧ X.cell? ⟨b8, 0, none⟩ = some (.int .i64 s.1) from ⟨q.c4.1, q.s.c0⟩)
        obtain ⟨e0, e1, e2, e3⟩ := HS.out _ M1 B1
        have P0 := HS.out W1.drew (M1.later (Below.refl _ _).drew) (B1.later (Below.refl _ _).drew)
        have hKG : Hid (∀ W2, Kept [m.g] W1.drew W2 → W2.cell? ⟨b14, 0, none⟩ = some (.int .i64 y.1) ∧ W2.cell? ⟨b14, 1, none⟩ = some (.int .i64 y.2)) := Lib.hid (fun W2 h => by
          have hne : b14 ≠ m.g := typ_ne B1 M1.ring (by decide)
          exact ⟨h.cell (p := ⟨b14, 0, none⟩) (by simpa using hne) P0.2.1, h.cell (p := ⟨b14, 1, none⟩) (by simpa using hne) P0.2.2.1⟩)
        have HM1 := Lib.hid (M1.later (Below.refl _ _).drew)
        clear M1 B1
        go_wp2_with fail
        go_region_held3 (fun X => X.cell? ⟨B, 2, none⟩ = some (.slice (some ⟨m.g, 0, none⟩) x.room m.rc) ∧ X.cell? ⟨b14, 0, none⟩ = some (.int .i64 y.1) ∧ X.cell? ⟨b14, 1, none⟩ = some (.int .i64 y.2) ∧ X.cell? ⟨b8, 0, none⟩ = some (.int .i64 s.1)) (first | with_reducible exact P0 | with_reducible exact P2 | go_keep)
          ((go_at_call 25; (with_reducible refine (HLY.out _ HM1.out).mono ?_); rintro e w9 ⟨rfl, M9, k9⟩; have P2 := And.intro (HS2.out _ M9).1 (And.intro (hKG.out _ k9).1 (And.intro (hKG.out _ k9).2 (HS2.out _ M9).2)); have HM9 := Lib.hid M9; clear M9 k9))
        clear P0 P2 e0 e1 e2 e3 HS HS2 hKG HM1 HLY
        go_wp2_with fail
        go_roundw
        case rel => exact ⟨k + 1, by omega, by go_num, HM9⟩
        case measure => simp [intOf]; omega
      · obtain rfl : k = G.length := by omega
        rw [List.take_of_length_le (Nat.le_refl _)] at HM
        obtain ⟨hl', hf', hr', hO'⟩ := HTK.out
        obtain ⟨hrg1, hrg2⟩ := HRG.out
        obtain ⟨t1, t2, t3⟩ := HTX.out (layG R s.1 p G) (by rw [layG_len]; exact HRX.out.1) hrg2
        rw [hl'] at t1 t2 t3
        have hn0 := HHX.out.2.1
        have hn2 : 0 ≤ nx l' := by omega
        have hrl : nx l' ≤ 4611686018427387904 := by rw [← hl']; exact (nx_spec hO'.l).2.1
        have hNN : (((nx x.l).toNat : Nat) : Int) = nx x.l := by omega
        have hKK : (((nx l' - nx x.l).toNat : Nat) : Int) = nx l' - nx x.l := by omega
        have hsum : (nx x.l).toNat + (nx l' - nx x.l).toNat = (nx l').toNat := by omega
        have hsmall : nx l' ≤ 1000100000 := by
          have := HRX.out.2.2
          rw [← hl']
          have := HTS.out
          omega
        have HNX := Lib.hid (fun X (q : X.cell? ⟨B, 1, none⟩ = some (.slice m.a (nx x.l).toNat m.cap)) => show Calls Try.prog 14 #[.pointer (some ⟨B, 0, none⟩)] X fun e w' => e = .returned (.int .i64 (nx x.l)) ∧ X = w' from by
          have := next_c q
          rw [hNN] at this
          exact this)
        have hlen' : l'.length ≤ 4096 := by rw [← hl']; have := HTS.out; omega
        have HGP := Lib.hid (fun X (q : MK w B m x b8 s Z d ga gc G l' SH' (layG R s.1 p G) X) => show Calls Try.prog 27 #[.pointer (some ⟨m.H, 0, none⟩), .int .i64 (nx x.l)] X (RetI (nx l') X) from by
          have := gap_own q.own (by rw [← hl']; exact hO'.l) hlen' (nx x.l)
          rw [t2] at this
          exact this)
        unfold RetI at HGP
        have HMV := Lib.hid (fun X (q : MK w B m x b8 s Z d ga gc G l' SH' (layG R s.1 p G) X) => show Calls Try.prog 26 #[.slice (some ⟨m.g, 0, none⟩) x.room m.rc, .slice m.a (nx x.l).toNat m.cap, .int .i64 (nx x.l), .int .i64 (nx l' - nx x.l)] X fun e w' => ∃ a' cap', e = .returned (.slice a' (nx l').toNat cap') ∧ BRow w' a' (nx l').toNat cap' (txt x') ∧ Kept (blk m.a m.cap) X w' ∧ ∀ b ∈ blk a' cap', b ∈ blk m.a m.cap ∨ X.heap.size ≤ b from by
          have := move_any (rc := m.rc) q.ring ((layG_len s.1 p G R).trans HRX.out.1) (by have := HRX.out.2.1; omega) HRX.out.2.2 q.text q.gt (nx x.l).toNat (nx l' - nx x.l).toNat (by omega) (by omega)
          rw [hNN, hKK, hsum, t3] at this
          exact this)
        have HFN := Lib.hid (fun X W' a6 c6 (q : MK w B m x b8 s Z d ga gc G l' SH' (layG R s.1 p G) X) (hrow : BRow W' a6 (nx l').toNat c6 (txt x')) hk hn => show _ ∧ _ ∧ TD w B m { m with SH := SH', a := a6, cap := c6 } x' b8 s Z d (W'.setCell ⟨B, 1, none⟩ (.slice a6 (nx l').toNat c6)) from by
          have hrow' : BRow W' a6 (nx x'.l).toNat c6 (txt x') := by rw [hl']; exact hrow
          have q' : MK w B m x b8 s Z d ga gc G x'.l SH' (layG R s.1 p G) X := by rw [hl']; exact q
          have hh := mk_fin q' ⟨hf', hr'⟩ hO' hrg1 HHX.out.1 hrow' hk hn
          rw [hl'] at hh
          exact hh)
        have hw1 : IntKind.i64.wrap (nx l' - nx x.l) = nx l' - nx x.l := IntWalk.i64_in _ (by omega)
        have HC1 := Lib.hid (fun X (q : MK w B m x b8 s Z d ga gc G l' SH' (layG R s.1 p G) X) => q.c1)
        have HM0 := Lib.hid (HM.out.later (Below.refl _ _).drew)
        clear hrg1 hrg2 t1 t2 t3 hl' hf' hr' hO' hlen' hNN hKK hsum HTX HRG HM HBO HBD
        generalize (nx x.l).toNat = N at *
        generalize (nx l').toNat = N2 at *
        generalize nx l' = n2 at *
        generalize nx x.l = n1 at *
        go_upto_region 13 with fail
        go_cut [] (fun wx => ∃ m', Hid (TD w B m m' x' b8 s Z d wx))
        case first =>
          have M0 := HM0.out
          have s0 := M0.c4
          have c10 := HC1.out _ M0
          clear HM0
          refine wp_region_noPanic ?_
          refine wp_region_held_drew (S := (fun W => C4 B m x W)) (by kernel_rfl) ?_ (fun hHeld => ?_)
          · ((try dsimp only); exact s0)
          refine wpAnyH_take (i := 0) (oi := _) (v := ?_) rfl (by kernel_rfl) (by kernel_rfl) (by kernel_rfl) (fun _ _ _ h => h) (Or.inl ⟨by kernel_rfl, ?_⟩) (by assumption) ?_
          rotate_left
          · (first | (intro v hSw; (try dsimp only at hSw); go_simp; done) | (intro v hSw; (try dsimp only at hSw); go_simp; with_reducible rfl))
          (try simp only [List.getElem_toArray, List.getElem_cons_succ, List.getElem_cons_zero, Act.put, List.setIfInBounds_toArray, List.set_cons_zero, List.set_cons_succ])
          refine wpAnyH_take (i := 1) (oi := _) (v := ?_) rfl (by kernel_rfl) (by kernel_rfl) (by kernel_rfl) (fun _ _ _ h => h) (Or.inl ⟨by kernel_rfl, ?_⟩) (by assumption) ?_
          rotate_left
          · (first | (intro v hSw; (try dsimp only at hSw); go_simp; done) | (intro v hSw; (try dsimp only at hSw); go_simp; with_reducible rfl))
          (try simp only [List.getElem_toArray, List.getElem_cons_succ, List.getElem_cons_zero, Act.put, List.setIfInBounds_toArray, List.set_cons_zero, List.set_cons_succ])
          refine wpAnyH_take (i := 2) (oi := _) (v := ?_) rfl (by kernel_rfl) (by kernel_rfl) (by kernel_rfl) (fun _ _ _ h => h) (Or.inl ⟨by kernel_rfl, ?_⟩) (by assumption) ?_
          rotate_left
          · (first | (intro v hSw; (try dsimp only at hSw); go_simp; done) | (intro v hSw; (try dsimp only at hSw); go_simp; with_reducible rfl))
          (try simp only [List.getElem_toArray, List.getElem_cons_succ, List.getElem_cons_zero, Act.put, List.setIfInBounds_toArray, List.set_cons_zero, List.set_cons_succ])
          refine wpAnyH_take (i := 3) (oi := _) (v := ?_) rfl (by kernel_rfl) (by kernel_rfl) (by kernel_rfl) (fun _ _ _ h => h) (Or.inl ⟨by kernel_rfl, ?_⟩) (by assumption) ?_
          rotate_left
          · (first | (intro v hSw; (try dsimp only at hSw); go_simp; done) | (intro v hSw; (try dsimp only at hSw); go_simp; with_reducible rfl))
          (try simp only [List.getElem_toArray, List.getElem_cons_succ, List.getElem_cons_zero, Act.put, List.setIfInBounds_toArray, List.set_cons_zero, List.set_cons_succ])
          refine wpAnyH_take (i := 4) (oi := _) (v := ?_) rfl (by kernel_rfl) (by kernel_rfl) (by kernel_rfl) (fun _ _ _ h => h) (Or.inl ⟨by kernel_rfl, ?_⟩) (by assumption) ?_
          rotate_left
          · (first | (intro v hSw; (try dsimp only at hSw); go_simp; done) | (intro v hSw; (try dsimp only at hSw); go_simp; with_reducible rfl))
          (try simp only [List.getElem_toArray, List.getElem_cons_succ, List.getElem_cons_zero, Act.put, List.setIfInBounds_toArray, List.set_cons_zero, List.set_cons_succ])
          refine wpAnyH_take (i := 5) (oi := _) (v := ?_) rfl (by kernel_rfl) (by kernel_rfl) (by kernel_rfl) (fun _ _ _ h => h) (Or.inl ⟨by kernel_rfl, ?_⟩) (by assumption) ?_
          rotate_left
          · (first | (intro v hSw; (try dsimp only at hSw); go_simp; done) | (intro v hSw; (try dsimp only at hSw); go_simp; with_reducible rfl))
          (try simp only [List.getElem_toArray, List.getElem_cons_succ, List.getElem_cons_zero, Act.put, List.setIfInBounds_toArray, List.set_cons_zero, List.set_cons_succ])
          refine wpAnyH_take (i := 6) (oi := _) (v := ?_) rfl (by kernel_rfl) (by kernel_rfl) (by kernel_rfl) (fun _ _ _ h => h) (Or.inl ⟨by kernel_rfl, ?_⟩) (by assumption) ?_
          rotate_left
          · (first | (intro v hSw; (try dsimp only at hSw); go_simp; done) | (intro v hSw; (try dsimp only at hSw); go_simp; with_reducible rfl))
          (try simp only [List.getElem_toArray, List.getElem_cons_succ, List.getElem_cons_zero, Act.put, List.setIfInBounds_toArray, List.set_cons_zero, List.set_cons_succ])
          refine wpAnyH_take (i := 7) (oi := _) (v := ?_) rfl (by kernel_rfl) (by kernel_rfl) (by kernel_rfl) (fun _ _ _ h => h) (Or.inl ⟨by kernel_rfl, ?_⟩) (by assumption) ?_
          rotate_left
          · (first | (intro v hSw; (try dsimp only at hSw); go_simp; done) | (intro v hSw; (try dsimp only at hSw); go_simp; with_reducible rfl))
          (try simp only [List.getElem_toArray, List.getElem_cons_succ, List.getElem_cons_zero, Act.put, List.setIfInBounds_toArray, List.set_cons_zero, List.set_cons_succ])
          refine wpAnyH_take (i := 9) (oi := _) (v := ?_) rfl (by kernel_rfl) (by kernel_rfl) (by kernel_rfl) (fun _ _ _ h => h) (Or.inl ⟨by kernel_rfl, ?_⟩) (by assumption) ?_
          rotate_left
          · (first | (intro v hSw; (try dsimp only at hSw); go_simp; done) | (intro v hSw; (try dsimp only at hSw); go_simp; with_reducible rfl))
          (try simp only [List.getElem_toArray, List.getElem_cons_succ, List.getElem_cons_zero, Act.put, List.setIfInBounds_toArray, List.set_cons_zero, List.set_cons_succ])
          refine wpAnyH_take (i := 11) (oi := _) (v := ?_) rfl (by kernel_rfl) (by kernel_rfl) (by kernel_rfl) (fun _ _ _ h => h) (Or.inl ⟨by kernel_rfl, ?_⟩) (by assumption) ?_
          rotate_left
          · (first | (intro v hSw; (try dsimp only at hSw); go_simp; done) | (intro v hSw; (try dsimp only at hSw); go_simp; with_reducible rfl))
          (try simp only [List.getElem_toArray, List.getElem_cons_succ, List.getElem_cons_zero, Act.put, List.setIfInBounds_toArray, List.set_cons_zero, List.set_cons_succ])
          refine wpAnyH_take (i := 12) (oi := _) (v := ?_) rfl (by kernel_rfl) (by kernel_rfl) (by kernel_rfl) (fun _ _ _ h => h) (Or.inl ⟨by kernel_rfl, ?_⟩) (by assumption) ?_
          rotate_left
          · (first | (intro v hSw; (try dsimp only at hSw); go_simp; done) | (intro v hSw; (try dsimp only at hSw); go_simp; with_reducible rfl))
          (try simp only [List.getElem_toArray, List.getElem_cons_succ, List.getElem_cons_zero, Act.put, List.setIfInBounds_toArray, List.set_cons_zero, List.set_cons_succ])
          refine wpAnyH_take (i := 13) (oi := _) (v := ?_) rfl (by kernel_rfl) (by kernel_rfl) (by kernel_rfl) (fun _ _ _ h => h) (Or.inl ⟨by kernel_rfl, ?_⟩) (by assumption) ?_
          rotate_left
          · (first | (intro v hSw; (try dsimp only at hSw); go_simp; done) | (intro v hSw; (try dsimp only at hSw); go_simp; with_reducible rfl))
          (try simp only [List.getElem_toArray, List.getElem_cons_succ, List.getElem_cons_zero, Act.put, List.setIfInBounds_toArray, List.set_cons_zero, List.set_cons_succ])
          refine wpAnyH_take (i := 14) (oi := _) (v := ?_) rfl (by kernel_rfl) (by kernel_rfl) (by kernel_rfl) (fun _ _ _ h => h) (Or.inl ⟨by kernel_rfl, ?_⟩) (by assumption) ?_
          rotate_left
          · (first | (intro v hSw; (try dsimp only at hSw); go_simp; done) | (intro v hSw; (try dsimp only at hSw); go_simp; with_reducible rfl))
          (try simp only [List.getElem_toArray, List.getElem_cons_succ, List.getElem_cons_zero, Act.put, List.setIfInBounds_toArray, List.set_cons_zero, List.set_cons_succ])
          refine wpAnyH_take (i := 15) (oi := _) (v := ?_) rfl (by kernel_rfl) (by kernel_rfl) (by kernel_rfl) (fun _ _ _ h => h) (Or.inl ⟨by kernel_rfl, ?_⟩) (by assumption) ?_
          rotate_left
          · (first | (intro v hSw; (try dsimp only at hSw); go_simp; done) | (intro v hSw; (try dsimp only at hSw); go_simp; with_reducible rfl))
          (try simp only [List.getElem_toArray, List.getElem_cons_succ, List.getElem_cons_zero, Act.put, List.setIfInBounds_toArray, List.set_cons_zero, List.set_cons_succ])
          refine wpAnyH_take (i := 18) (oi := _) (v := ?_) rfl (by kernel_rfl) (by kernel_rfl) (by kernel_rfl) (fun _ _ _ h => h) (Or.inl ⟨by kernel_rfl, ?_⟩) (by assumption) ?_
          rotate_left
          · (first | (intro v hSw; (try dsimp only at hSw); go_simp; done) | (intro v hSw; (try dsimp only at hSw); go_simp; with_reducible rfl))
          (try simp only [List.getElem_toArray, List.getElem_cons_succ, List.getElem_cons_zero, Act.put, List.setIfInBounds_toArray, List.set_cons_zero, List.set_cons_succ])
          refine wpAnyH_ready (rs := [8, 10]) (by kernel_rfl) (by simp) ?_
          refine AllReadyH.cons (o := _) rfl (fun K hK => ?_) ?_
          · go_simp
            refine hK.out _ _ ?_ (fun hHeld => ?_)
            · ((try dsimp only); first | exact s5 | exact s0)
            clear hK K
            (try simp only [List.getElem_toArray, List.getElem_cons_succ, List.getElem_cons_zero, Act.put, List.setIfInBounds_toArray, List.set_cons_zero, List.set_cons_succ])
            refine wpAnyH_ready (rs := [10]) (by kernel_rfl) (by simp) ?_
            refine AllReadyH.cons (o := _) rfl (fun K hK => ?_) AllReadyH.nil
            go_simp
            (first | (with_reducible refine (HNX.out _ (HC1.out _ M5)).mono ?_) | (with_reducible refine (HNX.out _ (HC1.out _ M0)).mono ?_))
            rintro e vx ⟨rfl, rfl⟩
            refine hK.out _ _ ?_ (fun hHeld => ?_)
            · ((try dsimp only); first | exact s5 | exact s0)
            clear hK K
            (try simp only [List.getElem_toArray, List.getElem_cons_succ, List.getElem_cons_zero, Act.put, List.setIfInBounds_toArray, List.set_cons_zero, List.set_cons_succ])
            refine wpAnyH_ready (rs := [16]) (by kernel_rfl) (by simp) ?_
            refine AllReadyH.cons (o := _) rfl (fun K hK => ?_) AllReadyH.nil
            go_simp
            (first | (with_reducible refine (HNX.out _ (HC1.out _ M5)).mono ?_) | (with_reducible refine (HNX.out _ (HC1.out _ M0)).mono ?_))
            rintro e vx ⟨rfl, rfl⟩
            refine hK.out _ _ ?_ (fun hHeld => ?_)
            · ((try dsimp only); first | exact s5 | exact s0)
            clear hK K
            (try simp only [List.getElem_toArray, List.getElem_cons_succ, List.getElem_cons_zero, Act.put, List.setIfInBounds_toArray, List.set_cons_zero, List.set_cons_succ])
            refine wpAnyH_ready (rs := [17]) (by kernel_rfl) (by simp) ?_
            refine AllReadyH.cons (o := _) rfl (fun K hK => ?_) AllReadyH.nil
            go_simp
            (with_reducible refine (HGP.out _ M0).mono ?_)
            rintro e v5 ⟨rfl, h5⟩
            have M5 := M0.later h5
            have s5 := M5.c4
            have c15 := HC1.out _ M5
            clear h5
            refine hK.out _ _ ?_ (fun hHeld => ?_)
            · ((try dsimp only); exact s5)
            clear hK K
            (try simp only [List.getElem_toArray, List.getElem_cons_succ, List.getElem_cons_zero, Act.put, List.setIfInBounds_toArray, List.set_cons_zero, List.set_cons_succ])
            refine wpAnyH_ready (rs := [19]) (by kernel_rfl) (by simp) ?_
            refine AllReadyH.cons (o := _) rfl (fun K hK => ?_) AllReadyH.nil
            go_simp
            (first | (with_reducible refine (HNX.out _ (HC1.out _ M5)).mono ?_) | (with_reducible refine (HNX.out _ (HC1.out _ M0)).mono ?_))
            rintro e vx ⟨rfl, rfl⟩
            refine hK.out _ _ ?_ (fun hHeld => ?_)
            · ((try dsimp only); first | exact s5 | exact s0)
            clear hK K
            (try simp only [List.getElem_toArray, List.getElem_cons_succ, List.getElem_cons_zero, Act.put, List.setIfInBounds_toArray, List.set_cons_zero, List.set_cons_succ])
            refine wpAnyH_take (i := 20) (oi := _) (v := ?_) rfl (by kernel_rfl) (by kernel_rfl) (by kernel_rfl) (fun _ _ _ h => h) (Or.inl ⟨by kernel_rfl, ?_⟩) (by assumption) ?_
            rotate_left
            · (first | (intro v hSw; (try dsimp only at hSw); go_simp; done) | (intro v hSw; (try dsimp only at hSw); go_simp; with_reducible rfl))
            (try simp only [List.getElem_toArray, List.getElem_cons_succ, List.getElem_cons_zero, Act.put, List.setIfInBounds_toArray, List.set_cons_zero, List.set_cons_succ])
            refine wpAnyH_ready (rs := [21]) (by kernel_rfl) (by simp) ?_
            refine AllReadyH.cons (o := _) rfl (fun K hK => ?_) AllReadyH.nil
            go_simp
            (with_reducible refine (HMV.out _ M5).mono ?_)
            rintro e v6 ⟨a6, c6, rfl, hrow, hk6, hn6⟩
            obtain ⟨⟨s6, c16, f16⟩, s7, HT⟩ := HFN.out _ _ _ _ M5 hrow hk6 hn6
            have HTD := Lib.hid HT
            clear HT hrow hk6 hn6
            refine hK.out _ _ ?_ (fun hHeld => ?_)
            · ((try dsimp only); exact s6)
            clear hK K
            (try simp only [List.getElem_toArray, List.getElem_cons_succ, List.getElem_cons_zero, Act.put, List.setIfInBounds_toArray, List.set_cons_zero, List.set_cons_succ])
            refine wpAnyH_take (i := 22) (oi := _) (v := ?_) rfl (by kernel_rfl) (by kernel_rfl) (by kernel_rfl) (fun _ _ _ h => h) (Or.inl ⟨by kernel_rfl, ?_⟩) (by assumption) ?_
            rotate_left
            · (first | (intro v hSw; (try dsimp only at hSw); go_simp; done) | (intro v hSw; (try dsimp only at hSw); go_simp; with_reducible rfl))
            (try simp only [List.getElem_toArray, List.getElem_cons_succ, List.getElem_cons_zero, Act.put, List.setIfInBounds_toArray, List.set_cons_zero, List.set_cons_succ])
            refine wpAnyH_take (i := 23) (oi := _) (v := ?_) rfl (by kernel_rfl) (by kernel_rfl) (by kernel_rfl) (fun _ _ _ h => h) (Or.inl ⟨by kernel_rfl, ?_⟩) (by assumption) ?_
            rotate_left
            · (first | (intro v hSw; (try dsimp only at hSw); go_simp; done) | (intro v hSw; (try dsimp only at hSw); go_simp; with_reducible rfl))
            (try simp only [List.getElem_toArray, List.getElem_cons_succ, List.getElem_cons_zero, Act.put, List.setIfInBounds_toArray, List.set_cons_zero, List.set_cons_succ])
            refine wpAnyH_ready (rs := [24]) (by kernel_rfl) (by simp) ?_
            refine AllReadyH.cons (o := _) rfl (fun K hK => ?_) AllReadyH.nil
            go_simp
            refine hK.out _ _ ?_ (fun hHeld => ?_)
            · ((try dsimp only); exact s7)
            clear hK K
            (try simp only [List.getElem_toArray, List.getElem_cons_succ, List.getElem_cons_zero, Act.put, List.setIfInBounds_toArray, List.set_cons_zero, List.set_cons_succ])
            refine wpAnyH_done (by kernel_rfl) ?_ _
            refine NoPanic.normal ?_
            clear hHeld s0 c10 M0 s5 s6 s7 c15 c16 f16 M5 HMV HFN HGP HNX HC1 hw1
            go_wp2_with fail
            go_meet
            exact ⟨_, HTD⟩
          refine AllReadyH.cons (o := _) rfl (fun K hK => ?_) AllReadyH.nil
          go_simp
          (first | (with_reducible refine (HNX.out _ (HC1.out _ M5)).mono ?_) | (with_reducible refine (HNX.out _ (HC1.out _ M0)).mono ?_))
          rintro e vx ⟨rfl, rfl⟩
          refine hK.out _ _ ?_ (fun hHeld => ?_)
          · ((try dsimp only); first | exact s5 | exact s0)
          clear hK K
          (try simp only [List.getElem_toArray, List.getElem_cons_succ, List.getElem_cons_zero, Act.put, List.setIfInBounds_toArray, List.set_cons_zero, List.set_cons_succ])
          refine wpAnyH_ready (rs := [8, 16]) (by kernel_rfl) (by simp) ?_
          refine AllReadyH.cons (o := _) rfl (fun K hK => ?_) ?_
          · go_simp
            refine hK.out _ _ ?_ (fun hHeld => ?_)
            · ((try dsimp only); first | exact s5 | exact s0)
            clear hK K
            (try simp only [List.getElem_toArray, List.getElem_cons_succ, List.getElem_cons_zero, Act.put, List.setIfInBounds_toArray, List.set_cons_zero, List.set_cons_succ])
            refine wpAnyH_ready (rs := [16]) (by kernel_rfl) (by simp) ?_
            refine AllReadyH.cons (o := _) rfl (fun K hK => ?_) AllReadyH.nil
            go_simp
            (first | (with_reducible refine (HNX.out _ (HC1.out _ M5)).mono ?_) | (with_reducible refine (HNX.out _ (HC1.out _ M0)).mono ?_))
            rintro e vx ⟨rfl, rfl⟩
            refine hK.out _ _ ?_ (fun hHeld => ?_)
            · ((try dsimp only); first | exact s5 | exact s0)
            clear hK K
            (try simp only [List.getElem_toArray, List.getElem_cons_succ, List.getElem_cons_zero, Act.put, List.setIfInBounds_toArray, List.set_cons_zero, List.set_cons_succ])
            refine wpAnyH_ready (rs := [17]) (by kernel_rfl) (by simp) ?_
            refine AllReadyH.cons (o := _) rfl (fun K hK => ?_) AllReadyH.nil
            go_simp
            (with_reducible refine (HGP.out _ M0).mono ?_)
            rintro e v5 ⟨rfl, h5⟩
            have M5 := M0.later h5
            have s5 := M5.c4
            have c15 := HC1.out _ M5
            clear h5
            refine hK.out _ _ ?_ (fun hHeld => ?_)
            · ((try dsimp only); exact s5)
            clear hK K
            (try simp only [List.getElem_toArray, List.getElem_cons_succ, List.getElem_cons_zero, Act.put, List.setIfInBounds_toArray, List.set_cons_zero, List.set_cons_succ])
            refine wpAnyH_ready (rs := [19]) (by kernel_rfl) (by simp) ?_
            refine AllReadyH.cons (o := _) rfl (fun K hK => ?_) AllReadyH.nil
            go_simp
            (first | (with_reducible refine (HNX.out _ (HC1.out _ M5)).mono ?_) | (with_reducible refine (HNX.out _ (HC1.out _ M0)).mono ?_))
            rintro e vx ⟨rfl, rfl⟩
            refine hK.out _ _ ?_ (fun hHeld => ?_)
            · ((try dsimp only); first | exact s5 | exact s0)
            clear hK K
            (try simp only [List.getElem_toArray, List.getElem_cons_succ, List.getElem_cons_zero, Act.put, List.setIfInBounds_toArray, List.set_cons_zero, List.set_cons_succ])
            refine wpAnyH_take (i := 20) (oi := _) (v := ?_) rfl (by kernel_rfl) (by kernel_rfl) (by kernel_rfl) (fun _ _ _ h => h) (Or.inl ⟨by kernel_rfl, ?_⟩) (by assumption) ?_
            rotate_left
            · (first | (intro v hSw; (try dsimp only at hSw); go_simp; done) | (intro v hSw; (try dsimp only at hSw); go_simp; with_reducible rfl))
            (try simp only [List.getElem_toArray, List.getElem_cons_succ, List.getElem_cons_zero, Act.put, List.setIfInBounds_toArray, List.set_cons_zero, List.set_cons_succ])
            refine wpAnyH_ready (rs := [21]) (by kernel_rfl) (by simp) ?_
            refine AllReadyH.cons (o := _) rfl (fun K hK => ?_) AllReadyH.nil
            go_simp
            (with_reducible refine (HMV.out _ M5).mono ?_)
            rintro e v6 ⟨a6, c6, rfl, hrow, hk6, hn6⟩
            obtain ⟨⟨s6, c16, f16⟩, s7, HT⟩ := HFN.out _ _ _ _ M5 hrow hk6 hn6
            have HTD := Lib.hid HT
            clear HT hrow hk6 hn6
            refine hK.out _ _ ?_ (fun hHeld => ?_)
            · ((try dsimp only); exact s6)
            clear hK K
            (try simp only [List.getElem_toArray, List.getElem_cons_succ, List.getElem_cons_zero, Act.put, List.setIfInBounds_toArray, List.set_cons_zero, List.set_cons_succ])
            refine wpAnyH_take (i := 22) (oi := _) (v := ?_) rfl (by kernel_rfl) (by kernel_rfl) (by kernel_rfl) (fun _ _ _ h => h) (Or.inl ⟨by kernel_rfl, ?_⟩) (by assumption) ?_
            rotate_left
            · (first | (intro v hSw; (try dsimp only at hSw); go_simp; done) | (intro v hSw; (try dsimp only at hSw); go_simp; with_reducible rfl))
            (try simp only [List.getElem_toArray, List.getElem_cons_succ, List.getElem_cons_zero, Act.put, List.setIfInBounds_toArray, List.set_cons_zero, List.set_cons_succ])
            refine wpAnyH_take (i := 23) (oi := _) (v := ?_) rfl (by kernel_rfl) (by kernel_rfl) (by kernel_rfl) (fun _ _ _ h => h) (Or.inl ⟨by kernel_rfl, ?_⟩) (by assumption) ?_
            rotate_left
            · (first | (intro v hSw; (try dsimp only at hSw); go_simp; done) | (intro v hSw; (try dsimp only at hSw); go_simp; with_reducible rfl))
            (try simp only [List.getElem_toArray, List.getElem_cons_succ, List.getElem_cons_zero, Act.put, List.setIfInBounds_toArray, List.set_cons_zero, List.set_cons_succ])
            refine wpAnyH_ready (rs := [24]) (by kernel_rfl) (by simp) ?_
            refine AllReadyH.cons (o := _) rfl (fun K hK => ?_) AllReadyH.nil
            go_simp
            refine hK.out _ _ ?_ (fun hHeld => ?_)
            · ((try dsimp only); exact s7)
            clear hK K
            (try simp only [List.getElem_toArray, List.getElem_cons_succ, List.getElem_cons_zero, Act.put, List.setIfInBounds_toArray, List.set_cons_zero, List.set_cons_succ])
            refine wpAnyH_done (by kernel_rfl) ?_ _
            refine NoPanic.normal ?_
            clear hHeld s0 c10 M0 s5 s6 s7 c15 c16 f16 M5 HMV HFN HGP HNX HC1 hw1
            go_wp2_with fail
            go_meet
            exact ⟨_, HTD⟩
          refine AllReadyH.cons (o := _) rfl (fun K hK => ?_) AllReadyH.nil
          go_simp
          (first | (with_reducible refine (HNX.out _ (HC1.out _ M5)).mono ?_) | (with_reducible refine (HNX.out _ (HC1.out _ M0)).mono ?_))
          rintro e vx ⟨rfl, rfl⟩
          refine hK.out _ _ ?_ (fun hHeld => ?_)
          · ((try dsimp only); first | exact s5 | exact s0)
          clear hK K
          (try simp only [List.getElem_toArray, List.getElem_cons_succ, List.getElem_cons_zero, Act.put, List.setIfInBounds_toArray, List.set_cons_zero, List.set_cons_succ])
          refine wpAnyH_ready (rs := [8, 17]) (by kernel_rfl) (by simp) ?_
          refine AllReadyH.cons (o := _) rfl (fun K hK => ?_) ?_
          · go_simp
            refine hK.out _ _ ?_ (fun hHeld => ?_)
            · ((try dsimp only); first | exact s5 | exact s0)
            clear hK K
            (try simp only [List.getElem_toArray, List.getElem_cons_succ, List.getElem_cons_zero, Act.put, List.setIfInBounds_toArray, List.set_cons_zero, List.set_cons_succ])
            refine wpAnyH_ready (rs := [17]) (by kernel_rfl) (by simp) ?_
            refine AllReadyH.cons (o := _) rfl (fun K hK => ?_) AllReadyH.nil
            go_simp
            (with_reducible refine (HGP.out _ M0).mono ?_)
            rintro e v5 ⟨rfl, h5⟩
            have M5 := M0.later h5
            have s5 := M5.c4
            have c15 := HC1.out _ M5
            clear h5
            refine hK.out _ _ ?_ (fun hHeld => ?_)
            · ((try dsimp only); exact s5)
            clear hK K
            (try simp only [List.getElem_toArray, List.getElem_cons_succ, List.getElem_cons_zero, Act.put, List.setIfInBounds_toArray, List.set_cons_zero, List.set_cons_succ])
            refine wpAnyH_ready (rs := [19]) (by kernel_rfl) (by simp) ?_
            refine AllReadyH.cons (o := _) rfl (fun K hK => ?_) AllReadyH.nil
            go_simp
            (first | (with_reducible refine (HNX.out _ (HC1.out _ M5)).mono ?_) | (with_reducible refine (HNX.out _ (HC1.out _ M0)).mono ?_))
            rintro e vx ⟨rfl, rfl⟩
            refine hK.out _ _ ?_ (fun hHeld => ?_)
            · ((try dsimp only); first | exact s5 | exact s0)
            clear hK K
            (try simp only [List.getElem_toArray, List.getElem_cons_succ, List.getElem_cons_zero, Act.put, List.setIfInBounds_toArray, List.set_cons_zero, List.set_cons_succ])
            refine wpAnyH_take (i := 20) (oi := _) (v := ?_) rfl (by kernel_rfl) (by kernel_rfl) (by kernel_rfl) (fun _ _ _ h => h) (Or.inl ⟨by kernel_rfl, ?_⟩) (by assumption) ?_
            rotate_left
            · (first | (intro v hSw; (try dsimp only at hSw); go_simp; done) | (intro v hSw; (try dsimp only at hSw); go_simp; with_reducible rfl))
            (try simp only [List.getElem_toArray, List.getElem_cons_succ, List.getElem_cons_zero, Act.put, List.setIfInBounds_toArray, List.set_cons_zero, List.set_cons_succ])
            refine wpAnyH_ready (rs := [21]) (by kernel_rfl) (by simp) ?_
            refine AllReadyH.cons (o := _) rfl (fun K hK => ?_) AllReadyH.nil
            go_simp
            (with_reducible refine (HMV.out _ M5).mono ?_)
            rintro e v6 ⟨a6, c6, rfl, hrow, hk6, hn6⟩
            obtain ⟨⟨s6, c16, f16⟩, s7, HT⟩ := HFN.out _ _ _ _ M5 hrow hk6 hn6
            have HTD := Lib.hid HT
            clear HT hrow hk6 hn6
            refine hK.out _ _ ?_ (fun hHeld => ?_)
            · ((try dsimp only); exact s6)
            clear hK K
            (try simp only [List.getElem_toArray, List.getElem_cons_succ, List.getElem_cons_zero, Act.put, List.setIfInBounds_toArray, List.set_cons_zero, List.set_cons_succ])
            refine wpAnyH_take (i := 22) (oi := _) (v := ?_) rfl (by kernel_rfl) (by kernel_rfl) (by kernel_rfl) (fun _ _ _ h => h) (Or.inl ⟨by kernel_rfl, ?_⟩) (by assumption) ?_
            rotate_left
            · (first | (intro v hSw; (try dsimp only at hSw); go_simp; done) | (intro v hSw; (try dsimp only at hSw); go_simp; with_reducible rfl))
            (try simp only [List.getElem_toArray, List.getElem_cons_succ, List.getElem_cons_zero, Act.put, List.setIfInBounds_toArray, List.set_cons_zero, List.set_cons_succ])
            refine wpAnyH_take (i := 23) (oi := _) (v := ?_) rfl (by kernel_rfl) (by kernel_rfl) (by kernel_rfl) (fun _ _ _ h => h) (Or.inl ⟨by kernel_rfl, ?_⟩) (by assumption) ?_
            rotate_left
            · (first | (intro v hSw; (try dsimp only at hSw); go_simp; done) | (intro v hSw; (try dsimp only at hSw); go_simp; with_reducible rfl))
            (try simp only [List.getElem_toArray, List.getElem_cons_succ, List.getElem_cons_zero, Act.put, List.setIfInBounds_toArray, List.set_cons_zero, List.set_cons_succ])
            refine wpAnyH_ready (rs := [24]) (by kernel_rfl) (by simp) ?_
            refine AllReadyH.cons (o := _) rfl (fun K hK => ?_) AllReadyH.nil
            go_simp
            refine hK.out _ _ ?_ (fun hHeld => ?_)
            · ((try dsimp only); exact s7)
            clear hK K
            (try simp only [List.getElem_toArray, List.getElem_cons_succ, List.getElem_cons_zero, Act.put, List.setIfInBounds_toArray, List.set_cons_zero, List.set_cons_succ])
            refine wpAnyH_done (by kernel_rfl) ?_ _
            refine NoPanic.normal ?_
            clear hHeld s0 c10 M0 s5 s6 s7 c15 c16 f16 M5 HMV HFN HGP HNX HC1 hw1
            go_wp2_with fail
            go_meet
            exact ⟨_, HTD⟩
          refine AllReadyH.cons (o := _) rfl (fun K hK => ?_) AllReadyH.nil
          go_simp
          (with_reducible refine (HGP.out _ M0).mono ?_)
          rintro e v5 ⟨rfl, h5⟩
          have M5 := M0.later h5
          have s5 := M5.c4
          have c15 := HC1.out _ M5
          clear h5
          refine hK.out _ _ ?_ (fun hHeld => ?_)
          · ((try dsimp only); exact s5)
          clear hK K
          (try simp only [List.getElem_toArray, List.getElem_cons_succ, List.getElem_cons_zero, Act.put, List.setIfInBounds_toArray, List.set_cons_zero, List.set_cons_succ])
          refine wpAnyH_ready (rs := [8, 19]) (by kernel_rfl) (by simp) ?_
          refine AllReadyH.cons (o := _) rfl (fun K hK => ?_) ?_
          · go_simp
            refine hK.out _ _ ?_ (fun hHeld => ?_)
            · ((try dsimp only); first | exact s5 | exact s0)
            clear hK K
            (try simp only [List.getElem_toArray, List.getElem_cons_succ, List.getElem_cons_zero, Act.put, List.setIfInBounds_toArray, List.set_cons_zero, List.set_cons_succ])
            refine wpAnyH_ready (rs := [19]) (by kernel_rfl) (by simp) ?_
            refine AllReadyH.cons (o := _) rfl (fun K hK => ?_) AllReadyH.nil
            go_simp
            (first | (with_reducible refine (HNX.out _ (HC1.out _ M5)).mono ?_) | (with_reducible refine (HNX.out _ (HC1.out _ M0)).mono ?_))
            rintro e vx ⟨rfl, rfl⟩
            refine hK.out _ _ ?_ (fun hHeld => ?_)
            · ((try dsimp only); first | exact s5 | exact s0)
            clear hK K
            (try simp only [List.getElem_toArray, List.getElem_cons_succ, List.getElem_cons_zero, Act.put, List.setIfInBounds_toArray, List.set_cons_zero, List.set_cons_succ])
            refine wpAnyH_take (i := 20) (oi := _) (v := ?_) rfl (by kernel_rfl) (by kernel_rfl) (by kernel_rfl) (fun _ _ _ h => h) (Or.inl ⟨by kernel_rfl, ?_⟩) (by assumption) ?_
            rotate_left
            · (first | (intro v hSw; (try dsimp only at hSw); go_simp; done) | (intro v hSw; (try dsimp only at hSw); go_simp; with_reducible rfl))
            (try simp only [List.getElem_toArray, List.getElem_cons_succ, List.getElem_cons_zero, Act.put, List.setIfInBounds_toArray, List.set_cons_zero, List.set_cons_succ])
            refine wpAnyH_ready (rs := [21]) (by kernel_rfl) (by simp) ?_
            refine AllReadyH.cons (o := _) rfl (fun K hK => ?_) AllReadyH.nil
            go_simp
            (with_reducible refine (HMV.out _ M5).mono ?_)
            rintro e v6 ⟨a6, c6, rfl, hrow, hk6, hn6⟩
            obtain ⟨⟨s6, c16, f16⟩, s7, HT⟩ := HFN.out _ _ _ _ M5 hrow hk6 hn6
            have HTD := Lib.hid HT
            clear HT hrow hk6 hn6
            refine hK.out _ _ ?_ (fun hHeld => ?_)
            · ((try dsimp only); exact s6)
            clear hK K
            (try simp only [List.getElem_toArray, List.getElem_cons_succ, List.getElem_cons_zero, Act.put, List.setIfInBounds_toArray, List.set_cons_zero, List.set_cons_succ])
            refine wpAnyH_take (i := 22) (oi := _) (v := ?_) rfl (by kernel_rfl) (by kernel_rfl) (by kernel_rfl) (fun _ _ _ h => h) (Or.inl ⟨by kernel_rfl, ?_⟩) (by assumption) ?_
            rotate_left
            · (first | (intro v hSw; (try dsimp only at hSw); go_simp; done) | (intro v hSw; (try dsimp only at hSw); go_simp; with_reducible rfl))
            (try simp only [List.getElem_toArray, List.getElem_cons_succ, List.getElem_cons_zero, Act.put, List.setIfInBounds_toArray, List.set_cons_zero, List.set_cons_succ])
            refine wpAnyH_take (i := 23) (oi := _) (v := ?_) rfl (by kernel_rfl) (by kernel_rfl) (by kernel_rfl) (fun _ _ _ h => h) (Or.inl ⟨by kernel_rfl, ?_⟩) (by assumption) ?_
            rotate_left
            · (first | (intro v hSw; (try dsimp only at hSw); go_simp; done) | (intro v hSw; (try dsimp only at hSw); go_simp; with_reducible rfl))
            (try simp only [List.getElem_toArray, List.getElem_cons_succ, List.getElem_cons_zero, Act.put, List.setIfInBounds_toArray, List.set_cons_zero, List.set_cons_succ])
            refine wpAnyH_ready (rs := [24]) (by kernel_rfl) (by simp) ?_
            refine AllReadyH.cons (o := _) rfl (fun K hK => ?_) AllReadyH.nil
            go_simp
            refine hK.out _ _ ?_ (fun hHeld => ?_)
            · ((try dsimp only); exact s7)
            clear hK K
            (try simp only [List.getElem_toArray, List.getElem_cons_succ, List.getElem_cons_zero, Act.put, List.setIfInBounds_toArray, List.set_cons_zero, List.set_cons_succ])
            refine wpAnyH_done (by kernel_rfl) ?_ _
            refine NoPanic.normal ?_
            clear hHeld s0 c10 M0 s5 s6 s7 c15 c16 f16 M5 HMV HFN HGP HNX HC1 hw1
            go_wp2_with fail
            go_meet
            exact ⟨_, HTD⟩
          refine AllReadyH.cons (o := _) rfl (fun K hK => ?_) AllReadyH.nil
          go_simp
          (first | (with_reducible refine (HNX.out _ (HC1.out _ M5)).mono ?_) | (with_reducible refine (HNX.out _ (HC1.out _ M0)).mono ?_))
          rintro e vx ⟨rfl, rfl⟩
          refine hK.out _ _ ?_ (fun hHeld => ?_)
          · ((try dsimp only); first | exact s5 | exact s0)
          clear hK K
          (try simp only [List.getElem_toArray, List.getElem_cons_succ, List.getElem_cons_zero, Act.put, List.setIfInBounds_toArray, List.set_cons_zero, List.set_cons_succ])
          refine wpAnyH_take (i := 20) (oi := _) (v := ?_) rfl (by kernel_rfl) (by kernel_rfl) (by kernel_rfl) (fun _ _ _ h => h) (Or.inl ⟨by kernel_rfl, ?_⟩) (by assumption) ?_
          rotate_left
          · (first | (intro v hSw; (try dsimp only at hSw); go_simp; done) | (intro v hSw; (try dsimp only at hSw); go_simp; with_reducible rfl))
          (try simp only [List.getElem_toArray, List.getElem_cons_succ, List.getElem_cons_zero, Act.put, List.setIfInBounds_toArray, List.set_cons_zero, List.set_cons_succ])
          refine wpAnyH_ready (rs := [8]) (by kernel_rfl) (by simp) ?_
          refine AllReadyH.cons (o := _) rfl (fun K hK => ?_) AllReadyH.nil
          go_simp
          refine hK.out _ _ ?_ (fun hHeld => ?_)
          · ((try dsimp only); first | exact s5 | exact s0)
          clear hK K
          (try simp only [List.getElem_toArray, List.getElem_cons_succ, List.getElem_cons_zero, Act.put, List.setIfInBounds_toArray, List.set_cons_zero, List.set_cons_succ])
          refine wpAnyH_ready (rs := [21]) (by kernel_rfl) (by simp) ?_
          refine AllReadyH.cons (o := _) rfl (fun K hK => ?_) AllReadyH.nil
          go_simp
          (with_reducible refine (HMV.out _ M5).mono ?_)
          rintro e v6 ⟨a6, c6, rfl, hrow, hk6, hn6⟩
          obtain ⟨⟨s6, c16, f16⟩, s7, HT⟩ := HFN.out _ _ _ _ M5 hrow hk6 hn6
          have HTD := Lib.hid HT
          clear HT hrow hk6 hn6
          refine hK.out _ _ ?_ (fun hHeld => ?_)
          · ((try dsimp only); exact s6)
          clear hK K
          (try simp only [List.getElem_toArray, List.getElem_cons_succ, List.getElem_cons_zero, Act.put, List.setIfInBounds_toArray, List.set_cons_zero, List.set_cons_succ])
          refine wpAnyH_take (i := 22) (oi := _) (v := ?_) rfl (by kernel_rfl) (by kernel_rfl) (by kernel_rfl) (fun _ _ _ h => h) (Or.inl ⟨by kernel_rfl, ?_⟩) (by assumption) ?_
          rotate_left
          · (first | (intro v hSw; (try dsimp only at hSw); go_simp; done) | (intro v hSw; (try dsimp only at hSw); go_simp; with_reducible rfl))
          (try simp only [List.getElem_toArray, List.getElem_cons_succ, List.getElem_cons_zero, Act.put, List.setIfInBounds_toArray, List.set_cons_zero, List.set_cons_succ])
          refine wpAnyH_take (i := 23) (oi := _) (v := ?_) rfl (by kernel_rfl) (by kernel_rfl) (by kernel_rfl) (fun _ _ _ h => h) (Or.inl ⟨by kernel_rfl, ?_⟩) (by assumption) ?_
          rotate_left
          · (first | (intro v hSw; (try dsimp only at hSw); go_simp; done) | (intro v hSw; (try dsimp only at hSw); go_simp; with_reducible rfl))
          (try simp only [List.getElem_toArray, List.getElem_cons_succ, List.getElem_cons_zero, Act.put, List.setIfInBounds_toArray, List.set_cons_zero, List.set_cons_succ])
          refine wpAnyH_ready (rs := [24]) (by kernel_rfl) (by simp) ?_
          refine AllReadyH.cons (o := _) rfl (fun K hK => ?_) AllReadyH.nil
          go_simp
          refine hK.out _ _ ?_ (fun hHeld => ?_)
          · ((try dsimp only); exact s7)
          clear hK K
          (try simp only [List.getElem_toArray, List.getElem_cons_succ, List.getElem_cons_zero, Act.put, List.setIfInBounds_toArray, List.set_cons_zero, List.set_cons_succ])
          refine wpAnyH_done (by kernel_rfl) ?_ _
          refine NoPanic.normal ?_
          clear hHeld s0 c10 M0 s5 s6 s7 c15 c16 f16 M5 HMV HFN HGP HNX HC1 hw1
          go_wp2_with fail
          go_meet
          exact ⟨_, HTD⟩
        case rest =>
          obtain ⟨m', HT⟩ := hcut
          clear HM0 HNX HGP HMV HFN HC1 hw1 HTS HTK HRX HHX HQ HPZ HX HGG HGL
          generalize wc = V at *
          have P0 := s4_of (HT.out.later (Below.refl _ _).drew).s (HT.out.later (Below.refl _ _).drew).d
          obtain ⟨⟨c0, c1⟩, c2, c3⟩ := s4_of HT.out.s HT.out.d
          have HLN := Lib.hid (fun X => len_any d X)
          unfold RetI at HLN
          go_upto_region 14 with fail
          go_region_held3 (fun X => S4 b8 Z s d X) (first | with_reducible exact P0 | with_reducible exact P1 | with_reducible exact P2 | go_keep)
            ((go_at_call 28; (with_reducible refine (HLN.out _).mono ?_); rintro e w9 ⟨rfl, h9⟩; have T9 := (HT.out.later (Below.refl _ _).drew).later h9; have P1 := s4_of T9.s T9.d; obtain ⟨⟨z0, z1, z2, z3, z4, z5⟩, f0, f1, f2, f3, f4, f5⟩ := t6_z T9.r; have TF := T9.fin (.int .i64 s.1) (.int .i64 s.2) (.int .i64 fr) (.bool (decide (0 < lenI d))) (.int .i64 d.1) (.int .i64 d.2); have P2 := s4_of TF.2.2.1 TF.2.2.2; have HF := Lib.hid (show RetK (.tuple #[.agg (tdC ⟨s, fr, d⟩), .int .i64 0]) B m x' w (.returned (.tuple #[.agg (tdC ⟨s, fr, d⟩), .int .i64 0])) (put6 w.heap.size (.int .i64 s.1) (.int .i64 s.2) (.int .i64 fr) (.bool (decide (0 < lenI d))) (.int .i64 d.1) (.int .i64 d.2) w9) from ⟨rfl, m', TF.1, TF.2.1, T9.new⟩); clear h9 T9 TF))
          clear P0 P1 P2 c0 c1 c2 c3 HLN HT
          go_wp2_with fail
          exact bodyPost_ret (v := .tuple #[.agg (tdC ⟨s, fr, d⟩), .int .i64 0]) (by simp [results, Try.results9, go_sem, z0, z1, z2, z3, z4, z5]) rfl (HFIN.out _ _ HF.out)
end Go.Proofs.Ytekddgmmfgpehaa.hd
