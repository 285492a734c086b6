/-
  Layer 21's law BufferPlays.
-/
import Derived.Test.YtjkjbhapkmamkaaBufE
namespace Go.Proofs.Ytjkjbhapkmamkaa.bf
open Go.RowKit aid mem sp
attribute [local go_sem ↓] Go.wp_at_zero Go.wp_at_succ
set_option linter.unusedVariables false
set_option linter.unusedSimpArgs false

/-- a buffer of one's own, the document's in a box (what it was), its row, the last operation's box -/
structure PS (w : World) (B : Nat) (g : Rg) (X : Nat) (x z : Bf) (a1 : Option Addr) (n1 c1 : Nat) (a : Option Addr) (n cap : Nat) (O : Nat) (o : OpV) (W : World) : Prop where
  bf : BfAt W B g x
  xb : W.heap[X]? = some (rO z a1 n1 c1)
  row : RRow W a n cap x.l
  rn : ∀ c ∈ blk a cap, c ∉ [B, g.b]
  ob : W.heap[O]? = some (opO o)
  below : Below w.heap.size w W
  own : ∀ b ∈ [B, g.b], w.heap.size ≤ b
  xl : w.heap.size ≤ X
section
variable {w W W' : World} {B X O Z : Nat} {g : Rg} {x y z v : Bf} {a1 a a' va : Option Addr} {n1 c1 n cap n' cap' vn vc : Nat} {o : OpV}
theorem PS.later (h : PS w B g X x z a1 n1 c1 a n cap O o W) (hb : Below W.heap.size W W') : PS w B g X x z a1 n1 c1 a n cap O o W' :=
  ⟨h.bf.later hb, (hb.block _ (lt_of_block h.xb)).trans h.xb, h.row.later hb, h.rn, (hb.block _ (lt_of_block h.ob)).trans h.ob, h.below.trans (hb.mono h.below.size), h.own, h.xl⟩
theorem PS.drew (h : PS w B g X x z a1 n1 c1 a n cap O o W) : PS w B g X x z a1 n1 c1 a n cap O o W.drew := h.later (Below.refl _ _).drew
/-- does -/
theorem PS.does (h : PS w B g X x z a1 n1 c1 a n cap O o W) (hf : FinD W B g (blk a cap) y a' n' cap' W') : PS w B g X y z a1 n1 c1 a' n' cap' O o W' := by
  obtain ⟨f1, f2, f3, f4, f5⟩ := hf
  exact ⟨f1, f4.heap (h.bf.typ h.xb nt.2 nt.1) h.xb, f2, f3, f4.heap (h.bf.typ h.ob nt1.1 nt1.2) h.ob, h.below.trans (f4.below h.own h.below.size), h.own, h.xl⟩
/-- a box is written that nobody reads -/
theorem PS.put (h : PS w B g X x z a1 n1 c1 a n cap O o W) (hz : W.heap[Z]? = some (rO v va vn vc)) (hZ : w.heap.size ≤ Z) (hXZ : X ≠ Z) (v' : Bf) (va' : Option Addr) (vn' vc' : Nat) : PS w B g X x z a1 n1 c1 a n cap O o (put3 Z v' va' vn' vc' W) := by
  have kk := put3_kept Z v' va' vn' vc' W
  have t := h.bf.typ hz nt.2 nt.1
  have tr := rrow_typ h.row hz nt.1
  have hO : O ≠ Z := fun e => by subst e; have := h.ob; rw [hz] at this; simp at this
  exact ⟨h.bf.keep kk (fun c hc e => by simp at e; subst e; exact t hc), kk.heap (by simpa using hXZ) h.xb, h.row.keep kk (fun c hc e => by simp at e; subst e; exact tr hc), h.rn, kk.heap (by simpa using hO) h.ob, h.below.trans (kk.below (by simpa using hZ) h.below.size), h.own, h.xl⟩
/-- the document's box is written -/
theorem PS.set (h : PS w B g X x z a1 n1 c1 a n cap O o W) : PS w B g X x x a n cap a n cap O o (put3 X x a n cap W) := by
  have kk := put3_kept X x a n cap W
  have t := h.bf.typ h.xb nt.2 nt.1
  have tr := rrow_typ h.row h.xb nt.1
  have hO : O ≠ X := fun e => by subst e; have := h.ob; rw [h.xb] at this; simp at this
  exact ⟨h.bf.keep kk (fun c hc e => by simp at e; subst e; exact t hc), put3_at h.xb x a n cap, h.row.keep kk (fun c hc e => by simp at e; subst e; exact tr hc), h.rn, kk.heap (by simpa using hO) h.ob, h.below.trans (kk.below (by simpa using h.xl) h.below.size), h.own, h.xl⟩
end
theorem opa2 {w W : World} {B : Nat} {g : Rg} {s : OpV} (h : SlA .u8 w s.b.1 s.b.2.1 s.b.2.2.1 s.b.2.2.2) (hb : Below w.heap.size w W) (ho : ∀ b ∈ [B, g.b], w.heap.size ≤ b) : OpA2 W B g s :=
  ⟨h.later hb, fun y hy h0 he => by
    obtain ⟨b, off, hbo, hc⟩ := h.cells (by have := h.le; omega)
    rw [hy] at hbo
    injection hbo with hbo
    subst hbo
    have h1 := World.block_lt_of_cell? w _ (hc 0 h0)
    have := ho _ he
    dsimp only at *
    omega⟩
abbrev S8 (X : Nat) (x : Bf) (a : Option Addr) (n cap : Nat) (Bo off k : Nat) (s : OpV) (W : World) : Prop := W.cell? ⟨X, 0, none⟩ = some (.int .i64 (x.una : Int)) ∧ W.cell? ⟨X, 1, none⟩ = some (.int .i64 (x.most : Int)) ∧ W.cell? ⟨X, 2, none⟩ = some (.slice a n cap) ∧
  W.cell? ⟨Bo, off + k * 5, none⟩ = some (.int .u8 s.kind) ∧ W.cell? ⟨Bo, off + k * 5 + 1, none⟩ = some (.slice s.b.1 s.b.2.1 s.b.2.2.1) ∧ W.cell? ⟨Bo, off + k * 5 + 2, none⟩ = some (.int .i64 s.t) ∧ W.cell? ⟨Bo, off + k * 5 + 3, none⟩ = some (.int .i64 s.s.1) ∧ W.cell? ⟨Bo, off + k * 5 + 4, none⟩ = some (.int .i64 s.s.2)
set_option maxRecDepth 100000 in
set_option maxHeartbeats 8000000 in
theorem walk_BufferPlays (w : World) (u : Int) (hu : -9223372036854775808 ≤ u ∧ u ≤ 9223372036854775807) (m : Int) (hm : -9223372036854775808 ≤ m ∧ m ≤ 9223372036854775807) (oa : Option Addr) (on oc : Nat) (ops : List OpV) (hops : OpA w oa on oc ops) (s : {q : OpV // OpOk w q}) :
    Calls Try.prog 3 #[.int .i64 u, .int .i64 m, .slice oa on oc, .agg (opC s.1)] w fun x w' => x = .returned (.bool true) ∧ Below w.heap.size w w' := by
  obtain ⟨s, hs⟩ := s
  dsimp only at *
  have HO := Lib.hid (heap_alloc_new w (opO s))
  have hb := bal (w := w) (opO s)
  by_cases hbad : u < 0 ∨ 4611686018427387904 < u ∨ m < 1 ∨ 65536 < m
  · have HNB := Lib.hid (new_bad u m hbad)
    clear hops hs
    by_cases h1 : u < 0
    · clear hbad
      go_enter Try.func3, Try.ntmps3
      go_wp2_with (first
        | (go_at_call 6; (with_reducible refine (known_b hb).mono ?_); clear hb; rintro e w1 ⟨rfl, hb⟩)
        | (go_at_call 7; (with_reducible refine (HNB.out _).mono ?_); rintro e w2 ⟨rfl, hb2⟩; replace hb := hb.trans (hb2.mono hb.size); clear hb2))
      go_ret
      exact ⟨rfl, hb⟩
    by_cases h2 : 4611686018427387904 < u
    · clear hbad
      go_enter Try.func3, Try.ntmps3
      go_wp2_with (first
        | (go_at_call 6; (with_reducible refine (known_b hb).mono ?_); clear hb; rintro e w1 ⟨rfl, hb⟩)
        | (go_at_call 7; (with_reducible refine (HNB.out _).mono ?_); rintro e w2 ⟨rfl, hb2⟩; replace hb := hb.trans (hb2.mono hb.size); clear hb2))
      go_ret
      exact ⟨rfl, hb⟩
    by_cases h3 : m < 1
    · clear hbad
      go_enter Try.func3, Try.ntmps3
      go_wp2_with (first
        | (go_at_call 6; (with_reducible refine (known_b hb).mono ?_); clear hb; rintro e w1 ⟨rfl, hb⟩)
        | (go_at_call 7; (with_reducible refine (HNB.out _).mono ?_); rintro e w2 ⟨rfl, hb2⟩; replace hb := hb.trans (hb2.mono hb.size); clear hb2))
      go_ret
      exact ⟨rfl, hb⟩
    have h4 : 65536 < m := by omega
    clear hbad
    go_enter Try.func3, Try.ntmps3
    go_wp2_with (first
      | (go_at_call 6; (with_reducible refine (known_b hb).mono ?_); clear hb; rintro e w1 ⟨rfl, hb⟩)
      | (go_at_call 7; (with_reducible refine (HNB.out _).mono ?_); rintro e w2 ⟨rfl, hb2⟩; replace hb := hb.trans (hb2.mono hb.size); clear hb2))
    go_ret
    exact ⟨rfl, hb⟩
  · have hu2 : ¬ u < 0 ∧ ¬ 4611686018427387904 < u ∧ ¬ m < 1 ∧ ¬ 65536 < m := by omega
    clear hbad
    obtain ⟨U, rfl⟩ : ∃ U : Nat, u = (U : Int) := ⟨u.toNat, by omega⟩
    obtain ⟨M, rfl⟩ : ∃ M : Nat, m = (M : Int) := ⟨m.toNat, by omega⟩
    obtain ⟨k1, k2, k3, k4⟩ := hu2
    have HNW := Lib.hid (fun W => new_ok U M (by omega) (by omega) (by omega) W)
    have hle := hops.le
    have hmost := hops.most
    unfold maxLen at hmost
    have HC := Lib.hid hops.cells
    have HSO := Lib.hid hs
    clear hops hs
    have hlo := bal (w := w) (opO s)
    go_enter Try.func3, Try.ntmps3
    go_upto_region 9 with (first
      | (go_at_call 6; (with_reducible refine (known_w _).mono ?_); rintro e w1 ⟨rfl, hb1⟩; have HOB := Lib.hid ((hb1.block _ (lt_of_block HO.out)).trans HO.out); replace hb := hb.trans (hb1.mono hb.size); clear hb1)
      | (go_at_call 7; (with_reducible refine (HNW.out _).mono ?_); rintro e w2 ⟨B, g, rfl, hS, hb2, hnew⟩))
    have P0 : PS w B g w2.heap.size ⟨U, M, []⟩ ⟨U, M, []⟩ none 0 0 none 0 0 w.heap.size s (w2.alloc (rO ⟨U, M, []⟩ none 0 0)) :=
      have hb3 := hb.trans (hb2.mono hb.size)
      have ho2 := (hb2.block _ (lt_of_block HOB.out)).trans HOB.out
      ⟨hS.later (bal _), heap_alloc_new w2 _, SlR.nil _ _ 1, fun c hc => by simp [blk_zero] at hc, ((bal (w := w2) _).block _ (lt_of_block ho2)).trans ho2, hb3.trans ((bal _).mono hb3.size), fun b hb' => Nat.le_trans hb.size (hnew b hb'), hb3.size⟩
    have HZ : Hid (Below w.heap.size w w2) := Lib.hid (hb.trans (hb2.mono hb.size))
    clear hS hb2 hnew hb HOB HNW hlo HO
    generalize w2.heap.size = X at *
    generalize hOO : w.heap.size = O at P0 ⊢
    have HOO := Lib.hid hOO
    clear hOO
    generalize w2.alloc (rO ⟨U, M, []⟩ none 0 0) = V0 at *
    go_wp2_with fail
    go_loopw [12] (fun i wr => ∃ (k : Nat) (x : Bf) (a : Option Addr) (n cap : Nat), i = .int .i64 k ∧ k ≤ on ∧ k ≤ 100 ∧ PS w B g X x x a n cap a n cap O s wr) (fun i _ => 100 - (intOf i).toNat)
    case atStart => exact ⟨0, _, _, _, _, rfl, by omega, by omega, P0⟩
    case round =>
      clear P0
      obtain ⟨k, x, a, n, cap, rfl, hk, hk3, P⟩ := hrel
      by_cases hlt : k < on ∧ k < 100
      case neg =>
        have HP := Lib.hid P
        have HTAIL := Lib.hid (fun W C (c : Rg) (q : BfAt W C c x) (hb : Below wr.heap.size wr W) (hn : ∀ b ∈ [C, c.b], wr.heap.size ≤ b) => show Calls Try.prog 8 #[.pointer (some ⟨C, 0, none⟩), rV x a n cap, .agg (opC s)] W (DoesP W C c (blk a cap) (stp x s)) from
          does_any q (HP.out.row.later hb) (fun e he hq => by have := (HP.out.row.lt e he).1; have := hn e hq; omega) HSO.out.1 HSO.out.2.1 (opa2 HSO.out.2.2.2 (HP.out.below.trans (hb.mono HP.out.below.size)) (fun b hb' => Nat.le_trans HP.out.below.size (hn b hb'))))
        unfold DoesP at HTAIL
        generalize stp x s = y at *
        clear HC P
        have HE : Hid (∀ W, PS w B g X x x a n cap a n cap O s W → St X x a n cap W ∧ OpAt O s W) := Lib.hid (fun W q => ⟨st_of q.xb, op_cs q.ob⟩)
        obtain ⟨⟨x0, x1, x2⟩, ⟨o0, o1, o2, o3, o4⟩⟩ := HE.out _ HP.out
        by_cases h1 : k < on
        · have h2 : ¬ k < 100 := by omega
          go_upto_region 17 with (go_at_call 10; (with_reducible refine (clone_any HP.out.bf).mono ?_); rintro e w3 ⟨C, c, rfl, hcl, hb3, hnew⟩)
          have P3 := HP.out.later hb3
          clear x0 x1 x2 o0 o1 o2 o3 o4
          obtain ⟨⟨x0, x1, x2⟩, ⟨o0, o1, o2, o3, o4⟩⟩ := HE.out _ P3
          go_upto_region 18 with (go_at_call 8; (with_reducible refine (HTAIL.out _ C c hcl hb3 hnew).mono ?_); rintro e w4 ⟨a', n', cap', rfl, hf⟩)
          have P4 := HP.out.later ((hb3.trans (hf.2.2.2.1.below hnew hb3.size)).trans ((bal (w := w4) (rO y a' n' cap')).mono (Nat.le_trans hb3.size hf.2.2.2.1.size)))
          have hc4 := hf.1.later (bal (rO y a' n' cap'))
          have hr4 : RRow (w4.alloc (rO y a' n' cap')) a' n' cap' y.l := SlR.later hf.2.1 (bal _)
          have hy4 := heap_alloc_new w4 (rO y a' n' cap')
          clear x0 x1 x2 o0 o1 o2 o3 o4 hf hcl P3
          generalize w4.alloc (rO y a' n' cap') = W4 at *
          generalize w4.heap.size = Y at *
          obtain ⟨y0, y1, y2⟩ := st_of hy4
          go_wp2_with (first
            | (go_at_call 9; first
              | ((with_reducible refine (equal_any hc4 hr4).mono ?_); rintro e w6 ⟨rfl, hb6⟩; have P6 := P4.later hb6; clear P4 hb6 hc4 hr4 y0 y1 y2 hy4; obtain ⟨⟨x0, x1, x2⟩, _⟩ := HE.out _ P6)
              | ((with_reducible refine (equal_any P6.bf P6.row).mono ?_); rintro e w7 ⟨rfl, hb7⟩; have P7 := P6.later hb7; clear P6 hb7 x0 x1 x2))
            | (go_at_call 6; (with_reducible refine (known_b P7.below).mono ?_); rintro e w8 ⟨rfl, P8⟩))
          go_ret
          exact ⟨rfl, P8⟩
        · go_upto_region 17 with (go_at_call 10; (with_reducible refine (clone_any HP.out.bf).mono ?_); rintro e w3 ⟨C, c, rfl, hcl, hb3, hnew⟩)
          have P3 := HP.out.later hb3
          clear x0 x1 x2 o0 o1 o2 o3 o4
          obtain ⟨⟨x0, x1, x2⟩, ⟨o0, o1, o2, o3, o4⟩⟩ := HE.out _ P3
          go_upto_region 18 with (go_at_call 8; (with_reducible refine (HTAIL.out _ C c hcl hb3 hnew).mono ?_); rintro e w4 ⟨a', n', cap', rfl, hf⟩)
          have P4 := HP.out.later ((hb3.trans (hf.2.2.2.1.below hnew hb3.size)).trans ((bal (w := w4) (rO y a' n' cap')).mono (Nat.le_trans hb3.size hf.2.2.2.1.size)))
          have hc4 := hf.1.later (bal (rO y a' n' cap'))
          have hr4 : RRow (w4.alloc (rO y a' n' cap')) a' n' cap' y.l := SlR.later hf.2.1 (bal _)
          have hy4 := heap_alloc_new w4 (rO y a' n' cap')
          clear x0 x1 x2 o0 o1 o2 o3 o4 hf hcl P3
          generalize w4.alloc (rO y a' n' cap') = W4 at *
          generalize w4.heap.size = Y at *
          obtain ⟨y0, y1, y2⟩ := st_of hy4
          go_wp2_with (first
            | (go_at_call 9; first
              | ((with_reducible refine (equal_any hc4 hr4).mono ?_); rintro e w6 ⟨rfl, hb6⟩; have P6 := P4.later hb6; clear P4 hb6 hc4 hr4 y0 y1 y2 hy4; obtain ⟨⟨x0, x1, x2⟩, _⟩ := HE.out _ P6)
              | ((with_reducible refine (equal_any P6.bf P6.row).mono ?_); rintro e w7 ⟨rfl, hb7⟩; have P7 := P6.later hb7; clear P6 hb7 x0 x1 x2))
            | (go_at_call 6; (with_reducible refine (known_b P7.below).mono ?_); rintro e w8 ⟨rfl, P8⟩))
          go_ret
          exact ⟨rfl, P8⟩
      case pos =>
      obtain ⟨h1, h2⟩ := hlt
      obtain ⟨Bo, off, rfl, hc⟩ := HC.out (by omega)
      obtain ⟨c0, c1, c2, c3, c4, hok⟩ := hc k h1
      have HOP := Lib.hid (fun W (h : Below w.heap.size w W) => show W.cell? ⟨Bo, off + k * 5, none⟩ = some (.int .u8 (ops.getD k default).kind) ∧ W.cell? ⟨Bo, off + k * 5 + 1, none⟩ = some (.slice (ops.getD k default).b.1 (ops.getD k default).b.2.1 (ops.getD k default).b.2.2.1) ∧ W.cell? ⟨Bo, off + k * 5 + 2, none⟩ = some (.int .i64 (ops.getD k default).t) ∧ W.cell? ⟨Bo, off + k * 5 + 3, none⟩ = some (.int .i64 (ops.getD k default).s.1) ∧ W.cell? ⟨Bo, off + k * 5 + 4, none⟩ = some (.int .i64 (ops.getD k default).s.2) from ⟨(h.cell (p := ⟨Bo, off + k * 5, none⟩) (World.block_lt_of_cell? w _ c0)).trans c0, (h.cell (p := ⟨Bo, off + k * 5 + 1, none⟩) (World.block_lt_of_cell? w _ c1)).trans c1, (h.cell (p := ⟨Bo, off + k * 5 + 2, none⟩) (World.block_lt_of_cell? w _ c2)).trans c2, (h.cell (p := ⟨Bo, off + k * 5 + 3, none⟩) (World.block_lt_of_cell? w _ c3)).trans c3, (h.cell (p := ⟨Bo, off + k * 5 + 4, none⟩) (World.block_lt_of_cell? w _ c4)).trans c4⟩)
      have HOK := Lib.hid hok
      clear hc c0 c1 c2 c3 c4 hok
      generalize ops.getD k default = q at *
      have HDO := Lib.hid (fun V (p : PS w B g X x x a n cap a n cap O s V) => does_any p.bf p.row p.rn HOK.out.1 HOK.out.2.1 (opa2 HOK.out.2.2.2 p.below p.own))
      unfold DoesP at HDO
      generalize stp x q = y at *
      have HSO2 := Lib.hid (fun V (z : Bf) a' n' cap' (p : PS w B g X z x a n cap a' n' cap' O s V) => show S8 X x a n cap Bo off k q V from by
        obtain ⟨x0, x1, x2⟩ := st_of p.xb
        obtain ⟨o0, o1, o2, o3, o4⟩ := HOP.out _ p.below
        exact ⟨x0, x1, x2, o0, o1, o2, o3, o4⟩)
      go_upto_region 12 with fail
      go_cut [13, 14] (fun s8 s9 wx => ∃ Z, s8 = .pointer (some ⟨Z, 0, none⟩) ∧ s9 = .bool true ∧ Hid (∃ a' n' cap', PS w B g X y x a n cap a' n' cap' O s wx ∧ wx.heap[Z]? = some (rO y a' n' cap')))
      case first =>
        have HXZ := Lib.hid (show X ≠ wr.heap.size ∧ w.heap.size ≤ wr.heap.size from ⟨Nat.ne_of_lt (lt_of_block P.xb), P.below.size⟩)
        have HGD := Lib.hid P.drew
        have HGA := Lib.hid ((P.later (bal zO)).drew)
        have HY := Lib.hid (heap_alloc_new wr zO)
        have P1 := HSO2.out _ _ _ _ _ HGD.out
        have P2 := HSO2.out _ _ _ _ _ HGA.out
        obtain ⟨x0, x1, x2, o0, o1, o2, o3, o4⟩ := HSO2.out _ _ _ _ _ P
        clear P
        go_wp2_with fail
        go_region_held3 (fun W => S8 X x a n cap Bo off k q W) (first | with_reducible exact P5 | with_reducible exact P4 | with_reducible exact P3 | with_reducible exact P2 | with_reducible exact P1 | go_keep)
          ((go_at_call 8; first
            | ((with_reducible refine (HDO.out _ HGD.out).mono ?_); rintro e w5 ⟨a', n', cap', rfl, hf⟩; have R := HGD.out.does hf; have P3 := HSO2.out _ _ _ _ _ R; have RA := R.later (bal (rO y a' n' cap')); have P4 := HSO2.out _ _ _ _ _ RA; have P5 := HSO2.out _ _ _ _ _ (R.later (bal zO)); have HR := Lib.hid (And.intro RA (heap_alloc_new w5 (rO y a' n' cap'))); clear hf R RA)
            | ((with_reducible refine (HDO.out _ HGA.out).mono ?_); rintro e w5 ⟨a', n', cap', rfl, hf⟩; have R := HGA.out.does hf; have P3 := HSO2.out _ _ _ _ _ R; have hy5 : w5.heap[wr.heap.size]? = some (rO zB none 0 0) := hf.2.2.2.1.heap (HGA.out.bf.typ HY.out nt.2 nt.1) HY.out; obtain ⟨g0, g1, g2⟩ := st_of hy5; obtain ⟨f0, f1, f2⟩ := fz_of hy5; have RA := R.put hy5 HXZ.out.2 HXZ.out.1 y a' n' cap'; have P4 := HSO2.out _ _ _ _ _ RA; have HR := Lib.hid (And.intro RA (put3_at hy5 y a' n' cap')); clear hf R RA hy5)))
        · clear P1 P2 P3 P4 P5 x0 x1 x2 o0 o1 o2 o3 o4 HGD HGA HY HXZ HSO2 HDO
          generalize w5.alloc (rO y a' n' cap') = W5 at *
          go_wp2_with fail
          go_meet
          exact ⟨_, rfl, rfl, Lib.hid ⟨_, _, _, HR.out⟩⟩
        · clear P1 P2 P3 P4 x0 x1 x2 o0 o1 o2 o3 o4 g0 g1 g2 f0 f1 f2 HGD HGA HY HXZ HSO2 HDO
          unfold put3 at HR
          generalize ((w5.setCell ⟨wr.heap.size, 0, none⟩ (.int .i64 (y.una : Int))).setCell ⟨wr.heap.size, 1, none⟩ (.int .i64 (y.most : Int))).setCell ⟨wr.heap.size, 2, none⟩ (.slice a' n' cap') = W5 at *
          go_wp2_with fail
          go_meet
          exact ⟨_, rfl, rfl, Lib.hid ⟨_, _, _, HR.out⟩⟩
      case rest =>
        clear P HSO2 HDO
        obtain ⟨Z, rfl, rfl, HR⟩ := hcut
        obtain ⟨a', n', cap', G, hz⟩ := HR.out
        clear HR
        generalize wc = V at *
        obtain ⟨z0, z1, z2⟩ := st_of hz
        obtain ⟨x0, x1, x2⟩ := st_of G.xb
        obtain ⟨f0, f1, f2⟩ := fz_of G.xb
        go_upto_region 14 with fail
        replace G := G.set
        unfold put3 at G
        clear z0 z1 z2 x0 x1 x2 f0 f1 f2 hz
        generalize ((V.setCell ⟨X, 0, none⟩ (.int .i64 (y.una : Int))).setCell ⟨X, 1, none⟩ (.int .i64 (y.most : Int))).setCell ⟨X, 2, none⟩ (.slice a' n' cap') = V2 at *
        obtain ⟨x0, x1, x2⟩ := st_of G.xb
        go_wp2_with (go_at_call 9; (with_reducible refine (equal_any G.bf G.row).mono ?_); rintro e w6 ⟨rfl, hb6⟩; have G6 := G.later hb6; clear G hb6)
        go_roundw
        case rel => exact ⟨k + 1, y, a', n', cap', by go_num, by omega, by omega, G6⟩
        case measure => simp [intOf]; omega
end Go.Proofs.Ytjkjbhapkmamkaa.bf
