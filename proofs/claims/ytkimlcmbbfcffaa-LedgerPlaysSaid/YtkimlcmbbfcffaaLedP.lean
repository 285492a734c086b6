/-
  Layer 19's law LedgerPlays.
-/
import Derived.Test.YtkimlcmbbfcffaaLedI
namespace Go.Proofs.Ytkimlcmbbfcffaa.lg
open Go.RowKit Go.Shelf aid mem sp rn
attribute [local go_sem ↓] Go.wp_at_zero Go.wp_at_succ
set_option linter.unusedVariables false
set_option linter.unusedSimpArgs false

abbrev zO : Obj := .cells #[.bool false, .int .i64 0, .int .i64 0, .slice none 0 0, .bool false] 28
/-- a ledger, the document's in a box with its row -/
structure PS (w : World) (b X : Nat) (x : Ld) (S : List Nat) (a : Option Addr) (n cap : Nat) (W : World) : Prop where
  ow : Ow b x S W
  ok : Ok x
  xb : W.heap[X]? = some (rO x a n cap)
  row : SlR W 32 2 a n cap (spCells x.l)
  rn : ∀ c ∈ blk a cap, c ∉ b :: S
  below : Below w.heap.size w W
  sb : ∀ c ∈ b :: S, w.heap.size ≤ c
  xl : w.heap.size ≤ X
/-- and a clone, what the document's was; a new row -/
structure GP (w : World) (b X C Y : Nat) (x : Ld) (S : List Nat) (x0 : Ld) (SC : List Nat) (a0 : Option Addr) (n0 cap0 : Nat) (z : Ld) (a1 : Option Addr) (n1 cap1 : Nat) (a : Option Addr) (n cap : Nat) (W : World) : Prop where
  ow : Ow b x S W
  ok : Ok x
  oc : Ow C x0 SC W
  y : W.heap[Y]? = some (rO x0 a0 n0 cap0)
  xb : W.heap[X]? = some (rO z a1 n1 cap1)
  row : SlR W 32 2 a n cap (spCells x.l)
  rn : ∀ c ∈ blk a cap, c ∉ b :: S
  cn : ∀ c ∈ C :: SC, c ∉ b :: S
  below : Below w.heap.size w W
  sb : ∀ c ∈ b :: S, w.heap.size ≤ c
  xl : w.heap.size ≤ X
  xy : X ≠ Y
section
variable {w W W' : World} {b X C Y Z : Nat} {x x' x0 z : Ld} {S SC : List Nat} {a0 a1 a a' : Option Addr} {n0 cap0 n1 cap1 n cap n' cap' : Nat}
theorem PS.later (h : PS w b X x S a n cap W) (hb : Below W.heap.size W W') : PS w b X x S a n cap W' :=
  ⟨h.ow.later hb, h.ok, (hb.block _ (lt_of_block h.xb)).trans h.xb, h.row.later hb, h.rn, h.below.trans (hb.mono h.below.size), h.sb, h.xl⟩
theorem GP.later (h : GP w b X C Y x S x0 SC a0 n0 cap0 z a1 n1 cap1 a n cap W) (hb : Below W.heap.size W W') : GP w b X C Y x S x0 SC a0 n0 cap0 z a1 n1 cap1 a n cap W' :=
  ⟨h.ow.later hb, h.ok, h.oc.later hb, (hb.block _ (lt_of_block h.y)).trans h.y, (hb.block _ (lt_of_block h.xb)).trans h.xb, h.row.later hb, h.rn, h.cn, h.below.trans (hb.mono h.below.size), h.sb, h.xl, h.xy⟩
theorem GP.drewN (h : GP w b X C Y x S x0 SC a0 n0 cap0 z a1 n1 cap1 a n cap W) (q : Nat) : GP w b X C Y x S x0 SC a0 n0 cap0 z a1 n1 cap1 a n cap (W.drewN q) := h.later ⟨rfl, rfl, rfl, Nat.le_refl _, fun _ _ => rfl⟩
theorem GP.drew (h : GP w b X C Y x S x0 SC a0 n0 cap0 z a1 n1 cap1 a n cap W) : GP w b X C Y x S x0 SC a0 n0 cap0 z a1 n1 cap1 a n cap W.drew := h.later (Below.refl _ _).drew
theorem PS.drew (h : PS w b X x S a n cap W) : PS w b X x S a n cap W.drew := h.later (Below.refl _ _).drew
/-- the row's block is of another type -/
theorem row_typ (hr : SlR W 32 2 a n cap (spCells x.l)) {k : Nat} {cs : Array Value} (hb : W.heap[k]? = some (.cells cs 28 (0, 0))) : k ∉ blk a cap := by
  intro he
  obtain ⟨_, cur, hc⟩ := hr.lt k he
  rw [hb] at hc; simp at hc
/-- a clone was made, then a box -/
theorem PS.one (h : PS w b X x S a n cap W) (hb : Below W.heap.size W W') (hc : Ow C x SC W') (hcn : ∀ c ∈ C :: SC, W.heap.size ≤ c) : GP w b X C W'.heap.size x S x SC a n cap x a n cap a n cap (W'.alloc (rO x a n cap)) := by
  have h1 := (h.later hb).later (bal (rO x a n cap))
  have hlt := (h.later hb).xb
  exact ⟨h1.ow, h1.ok, hc.later (bal _), heap_alloc_new _ _, h1.xb, h1.row, h1.rn, fun c hc' he => by have := hcn c hc'; have := h.ow.lt c he; omega, h1.below, h1.sb, h1.xl, Nat.ne_of_lt (lt_of_block hlt)⟩
/-- a box of another one's is written -/
theorem PS.put (h : PS w b X x S a n cap W) (hz : W.heap[Y]? = some (rO zL none 0 0)) (hY : w.heap.size ≤ Y) (hXY : X ≠ Y) (v : Ld) (va : Option Addr) (vn vc : Nat) : PS w b X x S a n cap (put5 Y v va vn vc W) := by
  have kk := put5_kept Y v va vn vc W
  have t := h.ow.typ hz nt1.2.2.1 nt1.2.2.2
  have tr := row_typ h.row hz
  exact ⟨h.ow.keep kk (fun c hc e => by simp at e; subst e; exact t hc), h.ok, kk.heap (by simpa using hXY) h.xb, h.row.keep kk (fun c hc e => by simp at e; subst e; exact tr hc), h.rn, h.below.trans (kk.below (by simpa using hY) h.below.size), h.sb, h.xl⟩
/-- a box was made, then a clone, then the box was written -/
theorem PS.two (h : PS w b X x S a n cap W) (hc : Ow C x SC W) (hz : W.heap[Y]? = some (rO zL none 0 0)) (hY : w.heap.size ≤ Y) (hXY : X ≠ Y) (hcn : ∀ c ∈ C :: SC, c ∉ b :: S) : GP w b X C Y x S x SC a n cap x a n cap a n cap (put5 Y x a n cap W) := by
  have h1 := h.put hz hY hXY x a n cap
  have kk := put5_kept Y x a n cap W
  have t := hc.typ hz nt1.2.2.1 nt1.2.2.2
  exact ⟨h1.ow, h1.ok, hc.keep kk (fun c hc e => by simp at e; subst e; exact t hc), put5_at hz x a n cap, h1.xb, h1.row, h1.rn, hcn, h1.below, h1.sb, h1.xl, hXY⟩
/-- does -/
theorem GP.does (h : GP w b X C Y x S x0 SC a0 n0 cap0 z a1 n1 cap1 a n cap W) (ho : Ok x') (hf : FinD W b S (blk a cap) x' a' n' cap' W') : (∃ S', GP w b X C Y x' S' x0 SC a0 n0 cap0 z a1 n1 cap1 a' n' cap' W') ∧ Kept (b :: S) W W' := by
  obtain ⟨⟨S', f1, f2, f3⟩, f4, f5, f6⟩ := hf
  have t1 := h.ow.typ h.y nt1.2.2.1 nt1.2.2.2
  have t2 := h.ow.typ h.xb nt1.2.2.1 nt1.2.2.2
  refine ⟨⟨S', f1, ho, h.oc.keep f5 h.cn, f5.heap t1 h.y, f5.heap t2 h.xb, f4, f3, fun c hc he => ?_, h.below.trans (f5.below h.sb h.below.size), fun c hc => ?_, h.xl, h.xy⟩, f5⟩
  · rcases List.mem_cons.1 he with rfl | he
    · exact h.cn _ hc (by simp)
    · rcases f2 c he with q | q
      · exact h.cn c hc (by simp [q])
      · have := h.oc.lt c hc; omega
  · rcases List.mem_cons.1 hc with rfl | hc
    · exact h.sb _ (by simp)
    · rcases f2 c hc with q | q
      · exact h.sb c (by simp [q])
      · have := h.below.size; omega
/-- a box is written that nobody reads -/
theorem GP.put (h : GP w b X C Y x S x0 SC a0 n0 cap0 z a1 n1 cap1 a n cap W) {v : Ld} {va : Option Addr} {vn vc : Nat} (hz : W.heap[Z]? = some (rO v va vn vc)) (hZ : w.heap.size ≤ Z) (hXZ : X ≠ Z) (hYZ : Y ≠ Z) (v' : Ld) (va' : Option Addr) (vn' vc' : Nat) : GP w b X C Y x S x0 SC a0 n0 cap0 z a1 n1 cap1 a n cap (put5 Z v' va' vn' vc' W) := by
  have kk := put5_kept Z v' va' vn' vc' W
  have t := h.ow.typ hz nt1.2.2.1 nt1.2.2.2
  have t2 := h.oc.typ hz nt1.2.2.1 nt1.2.2.2
  have tr := row_typ h.row hz
  exact ⟨h.ow.keep kk (fun c hc e => by simp at e; subst e; exact t hc), h.ok, h.oc.keep kk (fun c hc e => by simp at e; subst e; exact t2 hc), kk.heap (by simpa using hYZ) h.y, kk.heap (by simpa using hXZ) h.xb, h.row.keep kk (fun c hc e => by simp at e; subst e; exact tr hc), h.rn, h.cn, h.below.trans (kk.below (by simpa using hZ) h.below.size), h.sb, h.xl, h.xy⟩
/-- the document's box is written -/
theorem GP.set (h : GP w b X C Y x S x0 SC a0 n0 cap0 z a1 n1 cap1 a n cap W) : GP w b X C Y x S x0 SC a0 n0 cap0 x a n cap a n cap (put5 X x a n cap W) := by
  have kk := put5_kept X x a n cap W
  have t := h.ow.typ h.xb nt1.2.2.1 nt1.2.2.2
  have t2 := h.oc.typ h.xb nt1.2.2.1 nt1.2.2.2
  have tr := row_typ h.row h.xb
  exact ⟨h.ow.keep kk (fun c hc e => by simp at e; subst e; exact t hc), h.ok, h.oc.keep kk (fun c hc e => by simp at e; subst e; exact t2 hc), kk.heap (by simpa using Ne.symm h.xy) h.y, put5_at h.xb x a n cap, h.row.keep kk (fun c hc e => by simp at e; subst e; exact tr hc), h.rn, h.cn, h.below.trans (kk.below (by simpa using h.xl) h.below.size), h.sb, h.xl, h.xy⟩
theorem GP.ps (h : GP w b X C Y x S x0 SC a0 n0 cap0 x a n cap a n cap W) : PS w b X x S a n cap W := ⟨h.ow, h.ok, h.xb, h.row, h.rn, h.below, h.sb, h.xl⟩
end
/-- does' operand and the document's -/
abbrev S10 (X : Nat) (x : Ld) (a : Option Addr) (n cap : Nat) (Bo off k : Nat) (s : OpV) (W : World) : Prop := W.cell? ⟨X, 0, none⟩ = some (.bool x.op) ∧ W.cell? ⟨X, 1, none⟩ = some (.int .i64 x.cw) ∧ W.cell? ⟨X, 2, none⟩ = some (.int .i64 x.th) ∧ W.cell? ⟨X, 3, none⟩ = some (.slice a n cap) ∧ W.cell? ⟨X, 4, none⟩ = some (.bool x.sp) ∧
  W.cell? ⟨Bo, off + k * 5, none⟩ = some (.int .u8 s.kind) ∧ W.cell? ⟨Bo, off + k * 5 + 1, none⟩ = some (.int .i64 s.a) ∧ W.cell? ⟨Bo, off + k * 5 + 2, none⟩ = some (.int .i64 s.b) ∧ W.cell? ⟨Bo, off + k * 5 + 3, none⟩ = some (.int .i64 s.s.1) ∧ W.cell? ⟨Bo, off + k * 5 + 4, none⟩ = some (.int .i64 s.s.2)
set_option maxRecDepth 100000 in
set_option maxHeartbeats 8000000 in
theorem walk_LedgerPlays (w : World) (oa : Option Addr) (on oc : Nat) (ops : List OpV) (hops : OpA w oa on oc ops) :
    Calls Try.prog 3 #[.slice oa on oc] w fun x w' => x = .returned (.bool true) ∧ Below w.heap.size w w' := by
  have hb := Below.refl w.heap.size w
  have hle := hops.le
  have hmost := hops.most
  unfold maxLen at hmost
  have HC := Lib.hid hops.cells
  clear hops
  go_enter Try.func3, Try.ntmps3
  go_wp2_with (first
    | (go_at_call 7; (with_reducible refine (known_b hb).mono ?_); clear hb; rintro e w1 ⟨rfl, hb⟩)
    | (go_at_call 8; (with_reducible refine (new_any _).mono ?_); rintro e w2 ⟨rfl, N1, N2⟩))
  have P0 : PS w w1.heap.size w2.heap.size zL [] none 0 0 (w2.alloc (rO zL none 0 0)) := ⟨N1.later (bal _), ⟨by decide, fun p hp => by simp at hp⟩, heap_alloc_new w2 _, SlR.nil _ _ 2, fun c hc => by simp [blk_zero] at hc, (hb.trans (N2.mono hb.size)).trans ((bal _).mono (Nat.le_trans hb.size N2.size)), fun c hc => by simp at hc; subst hc; exact hb.size, Nat.le_trans hb.size N2.size⟩
  clear N1 N2 hb
  generalize w1.heap.size = b at *
  generalize w2.heap.size = X at *
  go_loopw [5] (fun i wr => ∃ (k : Nat) (x : Ld) (S : List Nat) (a : Option Addr) (n cap : Nat), i = .int .i64 k ∧ k ≤ on ∧ k ≤ 600 ∧ PS w b X x S a n cap wr) (fun i _ => 600 - (intOf i).toNat)
  case atStart => exact ⟨0, _, _, _, _, _, rfl, by omega, by omega, P0⟩
  case round =>
    clear P0
    obtain ⟨k, x, S, a, n, cap, rfl, hk, hk3, P⟩ := hrel
    by_cases hlt : k < on ∧ k < 600
    case neg =>
      by_cases h1 : k < on
      · have h2 : ¬ k < 600 := by omega
        go_wp2_with (go_at_call 7; (with_reducible refine (known_b P.below).mono ?_); clear P; rintro e w1 ⟨rfl, P⟩)
        go_ret
        exact ⟨rfl, P⟩
      · go_wp2_with (go_at_call 7; (with_reducible refine (known_b P.below).mono ?_); clear P; rintro e w1 ⟨rfl, P⟩)
        go_ret
        exact ⟨rfl, P⟩
    case pos =>
    obtain ⟨h1, h2⟩ := hlt
    obtain ⟨Bo, off, rfl, hc⟩ := HC.out (by omega)
    obtain ⟨c0, c1, c2, c3, c4, hok⟩ := hc k h1
    have HOP := Lib.hid (fun W (h : Below w.heap.size w W) => show Op5 Bo off k (ops.getD k default) W from ⟨(h.cell (p := ⟨Bo, off + k * 5, none⟩) (World.block_lt_of_cell? w _ c0)).trans c0, (h.cell (p := ⟨Bo, off + k * 5 + 1, none⟩) (World.block_lt_of_cell? w _ c1)).trans c1, (h.cell (p := ⟨Bo, off + k * 5 + 2, none⟩) (World.block_lt_of_cell? w _ c2)).trans c2, (h.cell (p := ⟨Bo, off + k * 5 + 3, none⟩) (World.block_lt_of_cell? w _ c3)).trans c3, (h.cell (p := ⟨Bo, off + k * 5 + 4, none⟩) (World.block_lt_of_cell? w _ c4)).trans c4⟩)
    have HOK := Lib.hid hok
    have HLN := Lib.hid (row_len P.row)
    clear hc c0 c1 c2 c3 c4 hok
    generalize ops.getD k default = s at *
    go_upto_region 8 with fail
    go_cut [6, 7] (fun s6 s7 wx => ∃ C Y, s6 = .pointer (some ⟨C, 0, none⟩) ∧ s7 = .pointer (some ⟨Y, 0, none⟩) ∧ Hid (∃ SC, GP w b X C Y x S x SC a n cap x a n cap a n cap wx))
    case first =>
      have HXY := Lib.hid (show X ≠ wr.heap.size ∧ w.heap.size ≤ wr.heap.size from ⟨Nat.ne_of_lt (lt_of_block P.xb), P.below.size⟩)
      obtain ⟨x0, x1, x2, x3, x4⟩ := st_of P.xb
      have HPD := Lib.hid P.drew
      have HPA := Lib.hid ((P.later (bal zO)).drew)
      have P1 := st_of HPD.out.xb
      have P2 := st_of HPA.out.xb
      have hy := heap_alloc_new wr zO
      have HY := Lib.hid hy
      clear hy P
      go_wp2_with fail
      go_region_held3 (fun W => St X x a n cap W) (first | with_reducible exact P5 | with_reducible exact P4 | with_reducible exact P3 | with_reducible exact P2 | with_reducible exact P1 | go_keep)
        ((go_at_call 9; first
          | ((with_reducible refine (clone_any HPD.out.ow HPD.out.ok.n).mono ?_); rintro e w5 ⟨C, SC, rfl, hcl, hb5, hnew⟩; have P3 := st_of (HPD.out.later hb5).xb; have P4 := st_of ((HPD.out.later hb5).later (bal (rO x a n cap))).xb; have P5 := st_of ((HPD.out.later hb5).later (bal zO)).xb; have HG := Lib.hid (HPD.out.one hb5 hcl hnew); clear hcl hb5 hnew)
          | ((with_reducible refine (clone_any HPA.out.ow HPA.out.ok.n).mono ?_); rintro e w5 ⟨C, SC, rfl, hcl, hb5, hnew⟩; have PL := HPA.out.later hb5; have P3 := st_of PL.xb; have hy5 : w5.heap[wr.heap.size]? = some (rO zL none 0 0) := (hb5.block wr.heap.size (lt_of_block HY.out)).trans HY.out; obtain ⟨g0, g1, g2, g3, g4⟩ := st_of hy5; obtain ⟨f0, f1, f2, f3, f4⟩ := fz_of hy5; have P4 := st_of (PL.put hy5 HXY.out.2 HXY.out.1 x a n cap).xb; have HG := Lib.hid (PL.two hcl hy5 HXY.out.2 HXY.out.1 (fun c hc he => by have := hnew c hc; have := HPA.out.ow.lt c he; omega)); clear hcl hb5 hnew PL hy5)))
      · clear P1 P2 P3 P4 P5 x0 x1 x2 x3 x4 HPD HPA HY HXY
        generalize w5.alloc (rO x a n cap) = W5 at *
        go_wp2_with fail
        go_meet
        exact ⟨_, _, rfl, rfl, Lib.hid ⟨_, HG.out⟩⟩
      · clear P1 P2 P3 P4 x0 x1 x2 x3 x4 g0 g1 g2 g3 g4 f0 f1 f2 f3 f4 HPD HPA HY HXY
        unfold put5 at HG
        generalize ((((w5.setCell ⟨wr.heap.size, 0, none⟩ (.bool x.op)).setCell ⟨wr.heap.size, 1, none⟩ (.int .i64 x.cw)).setCell ⟨wr.heap.size, 2, none⟩ (.int .i64 x.th)).setCell ⟨wr.heap.size, 3, none⟩ (.slice a n cap)).setCell ⟨wr.heap.size, 4, none⟩ (.bool x.sp) = W5 at *
        go_wp2_with fail
        go_meet
        exact ⟨_, _, rfl, rfl, Lib.hid ⟨_, HG.out⟩⟩
    case rest =>
      clear P
      obtain ⟨C, Y, rfl, rfl, HG⟩ := hcut
      obtain ⟨SC, G⟩ := HG.out
      clear HG
      generalize wc = W at *
      have HOS := Lib.hid (G.ok.stp s)
      have HDO := Lib.hid (fun V (g : GP w b X C Y x S x SC a n cap x a n cap a n cap V) => does_any g.ow g.ok g.row g.rn HOK.out)
      unfold DoesP at HDO
      generalize stp x s = y at *
      have HSO := Lib.hid (fun V (g : GP w b X C Y x S x SC a n cap x a n cap a n cap V) => show S10 X x a n cap Bo off k s V from by
        obtain ⟨x0, x1, x2, x3, x4⟩ := st_of g.xb
        obtain ⟨o0, o1, o2, o3, o4⟩ := HOP.out _ g.below
        exact ⟨x0, x1, x2, x3, x4, o0, o1, o2, o3, o4⟩)
      have HSP := Lib.hid (fun V S' a' n' cap' (g : GP w b X C Y y S' x SC a n cap x a n cap a' n' cap' V) => show S10 X x a n cap Bo off k s V from by
        obtain ⟨x0, x1, x2, x3, x4⟩ := st_of g.xb
        obtain ⟨o0, o1, o2, o3, o4⟩ := HOP.out _ g.below
        exact ⟨x0, x1, x2, x3, x4, o0, o1, o2, o3, o4⟩)
      go_upto_region 9 with fail
      go_cut [8, 9] (fun s8 s9 wx => ∃ Z, s8 = .pointer (some ⟨Z, 0, none⟩) ∧ s9 = .bool true ∧ Hid (∃ S' a' n' cap', GP w b X C Y y S' x SC a n cap x a n cap a' n' cap' wx ∧ wx.heap[Z]? = some (rO y a' n' cap')))
      case first =>
        have HXZ := Lib.hid (show X ≠ W.heap.size ∧ Y ≠ W.heap.size ∧ w.heap.size ≤ W.heap.size from ⟨Nat.ne_of_lt (lt_of_block G.xb), Nat.ne_of_lt (lt_of_block G.y), G.below.size⟩)
        have HGD := Lib.hid G.drew
        have HGA := Lib.hid ((G.later (bal zO)).drew)
        have HY := Lib.hid (heap_alloc_new W zO)
        have P1 := HSO.out _ HGD.out
        have P2 := HSO.out _ HGA.out
        obtain ⟨x0, x1, x2, x3, x4, o0, o1, o2, o3, o4⟩ := HSO.out _ G
        clear G
        go_wp2_with fail
        go_region_held3 (fun W => S10 X x a n cap Bo off k s W) (first | with_reducible exact P5 | with_reducible exact P4 | with_reducible exact P3 | with_reducible exact P2 | with_reducible exact P1 | go_keep)
          ((go_at_call 10; first
            | ((with_reducible refine (HDO.out _ HGD.out).mono ?_); rintro e w5 ⟨a', n', cap', rfl, hf⟩; obtain ⟨⟨S', R⟩, hk5⟩ := HGD.out.does HOS.out hf; have P3 := HSP.out _ _ _ _ _ R; have RA := R.later (bal (rO y a' n' cap')); have P4 := HSP.out _ _ _ _ _ RA; have P5 := HSP.out _ _ _ _ _ (R.later (bal zO)); have HR := Lib.hid (And.intro RA (heap_alloc_new w5 (rO y a' n' cap'))); clear hf R RA hk5)
            | ((with_reducible refine (HDO.out _ HGA.out).mono ?_); rintro e w5 ⟨a', n', cap', rfl, hf⟩; obtain ⟨⟨S', R⟩, hk5⟩ := HGA.out.does HOS.out hf; have P3 := HSP.out _ _ _ _ _ R; have hy5 : w5.heap[W.heap.size]? = some (rO zL none 0 0) := hk5.heap (HGA.out.ow.typ HY.out nt1.2.2.1 nt1.2.2.2) HY.out; obtain ⟨g0, g1, g2, g3, g4⟩ := st_of hy5; obtain ⟨f0, f1, f2, f3, f4⟩ := fz_of hy5; have RA := R.put hy5 HXZ.out.2.2 HXZ.out.1 HXZ.out.2.1 y a' n' cap'; have P4 := HSP.out _ _ _ _ _ RA; have HR := Lib.hid (And.intro RA (put5_at hy5 y a' n' cap')); clear hf R RA hk5 hy5)))
        · clear P1 P2 P3 P4 P5 x0 x1 x2 x3 x4 o0 o1 o2 o3 o4 HGD HGA HY HXZ HSO HSP HDO
          generalize w5.alloc (rO y a' n' cap') = W5 at *
          go_wp2_with fail
          go_meet
          exact ⟨_, rfl, rfl, Lib.hid ⟨_, _, _, _, HR.out⟩⟩
        · clear P1 P2 P3 P4 x0 x1 x2 x3 x4 o0 o1 o2 o3 o4 g0 g1 g2 g3 g4 f0 f1 f2 f3 f4 HGD HGA HY HXZ HSO HSP HDO
          unfold put5 at HR
          generalize ((((w5.setCell ⟨W.heap.size, 0, none⟩ (.bool y.op)).setCell ⟨W.heap.size, 1, none⟩ (.int .i64 y.cw)).setCell ⟨W.heap.size, 2, none⟩ (.int .i64 y.th)).setCell ⟨W.heap.size, 3, none⟩ (.slice a' n' cap')).setCell ⟨W.heap.size, 4, none⟩ (.bool y.sp) = W5 at *
          go_wp2_with fail
          go_meet
          exact ⟨_, rfl, rfl, Lib.hid ⟨_, _, _, _, HR.out⟩⟩
      case rest =>
        clear G HSO HSP HDO HOS
        obtain ⟨Z, rfl, rfl, HR⟩ := hcut
        obtain ⟨S', a', n', cap', G, hz⟩ := HR.out
        clear HR
        generalize wc = V at *
        obtain ⟨z0, z1, z2, z3, z4⟩ := st_of hz
        obtain ⟨x0, x1, x2, x3, x4⟩ := st_of G.xb
        obtain ⟨f0, f1, f2, f3, f4⟩ := fz_of G.xb
        go_upto_region 11 with fail
        replace G := G.set
        unfold put5 at G
        clear z0 z1 z2 z3 z4 x0 x1 x2 x3 x4 f0 f1 f2 f3 f4 hz
        generalize ((((V.setCell ⟨X, 0, none⟩ (.bool y.op)).setCell ⟨X, 1, none⟩ (.int .i64 y.cw)).setCell ⟨X, 2, none⟩ (.int .i64 y.th)).setCell ⟨X, 3, none⟩ (.slice a' n' cap')).setCell ⟨X, 4, none⟩ (.bool y.sp) = V2 at *
        obtain ⟨x0, x1, x2, x3, x4⟩ := st_of G.xb
        obtain ⟨y0, y1, y2, y3, y4⟩ := st_of G.y
        have HLY := row_len G.row
        have Q1 := Lib.hid (show ∀ m, Calls Try.prog 11 #[.pointer (some ⟨b, 0, none⟩)] (V2.drewN m) fun e w'' => e = .returned (.bool y.op) ∧ ∃ q, w'' = V2.drewN q from open_q G.ow)
        have Q2 := Lib.hid (show ∀ m, Calls Try.prog 12 #[.pointer (some ⟨b, 0, none⟩)] (V2.drewN m) fun e w'' => e = .returned (.int .i64 n') ∧ ∃ q, w'' = V2.drewN q from by rw [← HLY]; exact pending_q G.ow)
        have Q3 := Lib.hid (show ∀ m, Calls Try.prog 13 #[.pointer (some ⟨b, 0, none⟩)] (V2.drewN m) fun e w'' => e = .returned (.bool y.sp) ∧ ∃ q, w'' = V2.drewN q from spilt_q G.ow)
        have Q4 := Lib.hid (show ∀ m, Calls Try.prog 11 #[.pointer (some ⟨C, 0, none⟩)] (V2.drewN m) fun e w'' => e = .returned (.bool x.op) ∧ ∃ q, w'' = V2.drewN q from open_q G.oc)
        have Q5 := Lib.hid (show ∀ m, Calls Try.prog 12 #[.pointer (some ⟨C, 0, none⟩)] (V2.drewN m) fun e w'' => e = .returned (.int .i64 n) ∧ ∃ q, w'' = V2.drewN q from by rw [← HLN.out]; exact pending_q G.oc)
        have HG := Lib.hid G
        clear G HLY HLN HOP HOK HC
        generalize y.op = yo at *
        generalize y.sp = ys at *
        generalize x.op = xo at *
        go_quiet (first
          | (go_at_call 11; first | with_reducible exact Q1.out _ | with_reducible exact Q4.out _)
          | (go_at_call 12; first | with_reducible exact Q2.out _ | with_reducible exact Q5.out _)
          | (go_at_call 13; with_reducible exact Q3.out _))
        have G := (HG.out.drewN nq).ps
        clear Q1 Q2 Q3 Q4 Q5 x0 x1 x2 x3 x4 y0 y1 y2 y3 y4
        go_wp2_with fail
        go_roundw
        case rel => exact ⟨k + 1, y, S', a', n', cap', by go_num, by omega, by omega, G⟩
        case measure => simp [intOf]; omega
end Go.Proofs.Ytkimlcmbbfcffaa.lg
