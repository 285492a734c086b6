/-
  Layer 16's law: ProbePlays.
-/
import Derived.Test.YtbmbibkomedooaaPrbL
import Derived.Test.YtbmbibkomedooaaPrbO
namespace Go.Proofs.Ytbmbibkomedooaa.pb
open Go.RowKit aid mem sp
attribute [local go_sem ↓] Go.wp_at_zero Go.wp_at_succ
set_option linter.unusedVariables false
set_option linter.unusedSimpArgs false

/-- a call that changes nothing but draws -/
def Q (f : FuncId) (args : Array Value) (v : Value) (w : World) : Prop := ∀ n, Calls Try.prog f args (w.drewN n) fun e w'' => e = .returned v ∧ ∃ m, w'' = w.drewN m
theorem Q.of {f : FuncId} {args : Array Value} {v : Value} {w : World} (h : ∀ n, Calls Try.prog f args (w.drewN n) fun e w'' => e = .returned v ∧ w.drewN n = w'') : Q f args v w := fun n =>
  (h n).mono fun _ _ ⟨he, hm⟩ => ⟨he, n, hm.symm⟩
theorem PbAt.drewN {w : World} {B : Nat} {p : Pb} (h : PbAt w B p) (n : Nat) : PbAt (w.drewN n) B p := h
abbrev opC (o : OpV) : Array Value := #[.int .u8 o.kind, .int .i64 o.fin, .bool o.again, .int .i64 o.dup.1, .int .i64 o.dup.2, .bool o.isDup, .bool o.bare]
/-- the probe, the reference's in a box, an operation in a box -/
structure PO (w0 : World) (B X O : Nat) (p q : Pb) (o : OpV) (w : World) : Prop where
  ps : PS w0 B p w
  x : RbAt w X q
  o : w.heap[O]? = some (.cells (opC o) 33 (0, 0))
  bx : B ≠ X
  bo : B ≠ O
  xo : X ≠ O
  xl : w0.heap.size ≤ X
section
variable {w0 w w' : World} {B X O : Nat} {p q : Pb} {o : OpV}
theorem PO.later (h : PO w0 B X O p q o w) (hb : Below w.heap.size w w') : PO w0 B X O p q o w' :=
  ⟨h.ps.later hb, (hb.block _ (lt_of_block h.x)).trans h.x, (hb.block _ (lt_of_block h.o)).trans h.o, h.bx, h.bo, h.xo, h.xl⟩
theorem PO.wrote {p2 : Pb} (h : PO w0 B X O p q o w) (h2 : PS w0 B p2 w') (hk : Kept [B] w w') : PO w0 B X O p2 q o w' :=
  ⟨h2, hk.heap (by simp; exact h.bx.symm) h.x, hk.heap (by simp; exact h.bo.symm) h.o, h.bx, h.bo, h.xo, h.xl⟩
theorem PO.set (h : PO w0 B X O p q o w) (a b : Bool) (n : Int) : PO w0 B X O p ⟨a, b, n⟩ o (((w.setCell ⟨X, 0, none⟩ (.bool a)).setCell ⟨X, 1, none⟩ (.bool b)).setCell ⟨X, 2, none⟩ (.int .i64 n)) :=
  have hk := kp3 w X (.bool a) (.bool b) (.int .i64 n)
  ⟨⟨h.ps.at'.keep hk (by simp; exact h.bx), h.ps.below.trans (hk.below (by simpa using h.xl) h.ps.below.size), h.ps.le⟩, h.x.put a b n, hk.heap (by simp; exact h.xo.symm) h.o, h.bx, h.bo, h.xo, h.xl⟩
theorem PO.set1 (h : PO w0 B X O p q o w) (a b : Bool) (n : Int) : PO w0 B X O p ⟨a, b, n⟩ o ((((w.setCell ⟨X, 0, none⟩ (.bool a)).setCell ⟨X, 1, none⟩ (.bool b)).setCell ⟨X, 2, none⟩ (.int .i64 n)).alloc (.cells #[.bool a, .bool b, .int .i64 n] 29)) :=
  (h.set a b n).later (bal _)
theorem PO.xs (h : PO w0 B X O p q o w) : w.cell? ⟨X, 0, none⟩ = some (.bool q.on) ∧ w.cell? ⟨X, 1, none⟩ = some (.bool q.again) ∧ w.cell? ⟨X, 2, none⟩ = some (.int .i64 q.fin) ∧ w.frozen? ⟨X, 0, none⟩ = false ∧ w.frozen? ⟨X, 1, none⟩ = false ∧ w.frozen? ⟨X, 2, none⟩ = false :=
  ⟨cofr h.x 0 _ rfl, cofr h.x 1 _ rfl, cofr h.x 2 _ rfl, fofr h.x 0, fofr h.x 1, fofr h.x 2⟩
theorem PO.os (h : PO w0 B X O p q o w) : w.cell? ⟨O, 0, none⟩ = some (.int .u8 o.kind) ∧ w.cell? ⟨O, 1, none⟩ = some (.int .i64 o.fin) ∧ w.cell? ⟨O, 2, none⟩ = some (.bool o.again) ∧ w.cell? ⟨O, 3, none⟩ = some (.int .i64 o.dup.1) ∧ w.cell? ⟨O, 4, none⟩ = some (.int .i64 o.dup.2) ∧ w.cell? ⟨O, 5, none⟩ = some (.bool o.isDup) ∧ w.cell? ⟨O, 6, none⟩ = some (.bool o.bare) :=
  ⟨cofr h.o 0 _ rfl, cofr h.o 1 _ rfl, cofr h.o 2 _ rfl, cofr h.o 3 _ rfl, cofr h.o 4 _ rfl, cofr h.o 5 _ rfl, cofr h.o 6 _ rfl⟩
theorem PO.drew (h : PO w0 B X O p q o w) : PO w0 B X O p q o w.drew := h.later (Below.refl _ _).drew
theorem PO.x3 (h : PO w0 B X O p q o w) : w.cell? ⟨X, 0, none⟩ = some (.bool q.on) ∧ w.cell? ⟨X, 1, none⟩ = some (.bool q.again) ∧ w.cell? ⟨X, 2, none⟩ = some (.int .i64 q.fin) := ⟨cofr h.x 0 _ rfl, cofr h.x 1 _ rfl, cofr h.x 2 _ rfl⟩
theorem PO.ne2 (h : PO w0 B X O p q o w) : X < w.heap.size ∧ O < w.heap.size := ⟨lt_of_block h.x, lt_of_block h.o⟩
end
/-- the probe, and the reference's in a box -/
structure PL (w0 : World) (B X : Nat) (p q : Pb) (w : World) : Prop where
  ps : PS w0 B p w
  x : RbAt w X q
  bx : B ≠ X
  xl : w0.heap.size ≤ X
theorem PO.pl {w0 w : World} {B X O : Nat} {p q : Pb} {o : OpV} (h : PO w0 B X O p q o w) : PL w0 B X p q w := ⟨h.ps, h.x, h.bx, h.xl⟩
theorem PL.op {w0 w : World} {B X : Nat} {p q : Pb} (h : PL w0 B X p q w) (o : OpV) : PO w0 B X w.heap.size p q o (w.alloc (.cells (opC o) 33)) :=
  ⟨h.ps.later (bal _), ((bal (w := w) (.cells (opC o) 33)).block _ (lt_of_block h.x)).trans h.x, heap_alloc_new w _, h.bx, Nat.ne_of_lt h.ps.at'.lt, Nat.ne_of_lt (lt_of_block h.x), h.xl⟩
theorem three_q {w0 w : World} {B X O : Nat} {p q : Pb} {o : OpV} (h : PO w0 B X O p q o w) :
    Q 15 #[.pointer (some ⟨B, 0, none⟩)] (.bool p.on) w ∧ Q 16 #[.pointer (some ⟨B, 0, none⟩)] (.int .i64 p.fin) w ∧ Q 17 #[.pointer (some ⟨B, 0, none⟩)] (.bool p.again) w :=
  ⟨Q.of fun n => on_eq (h.ps.at'.drewN n), Q.of fun n => end_eq (h.ps.at'.drewN n), Q.of fun n => again_eq (h.ps.at'.drewN n)⟩
theorem stop_q {w0 w : World} {B X O : Nat} {p q : Pb} {o : OpV} (h : PO w0 B X O p q o w) : (stP p o.fin o.again = stP p o.fin o.again) := rfl
theorem PO.drewN {w0 w : World} {B X O : Nat} {p q : Pb} {o : OpV} (h : PO w0 B X O p q o w) (n : Nat) : PO w0 B X O p q o (w.drewN n) := h.later (belN w n)

def Inv (p : Pb) : Prop := p.on = false → p = Pb.off
theorem inv_tell {p : Pb} {ack : Int} {isDup : Bool} {d : Int × Int} {bare : Bool} (h : Inv p) : Inv (tellP p ack isDup d bare) := by
  unfold tellP; split
  · exact h
  · exact fun _ => rfl
theorem inv_st {p : Pb} {n : Int} {g : Bool} (h : Inv p) : Inv (stP p n g) := by
  unfold stP; split
  · exact fun h => by cases h
  · exact h
theorem inv_stop {p : Pb} (h : Inv p) : (if p.on then Pb.off else p) = Pb.off := by
  cases hp : p.on with
  | true => rfl
  | false => exact h hp

set_option maxRecDepth 100000 in
set_option maxHeartbeats 4000000 in
theorem walk_ProbePlays (w : World) (a : Option Addr) (n cap : Nat) (ops : List OpV) (hops : OpA w a n cap ops) :
    Calls Try.prog 4 #[.slice a n cap] w fun x w' => x = .returned (.bool true) ∧ Below w.heap.size w w' := by
  have hb := Below.refl w.heap.size w
  have hle := hops.le
  have hmost := hops.most
  unfold maxLen at hmost
  have HC := Lib.hid hops.cells
  clear hops
  go_enter Try.func4, Try.ntmps4
  go_wp2_with (go_at_call 7; (with_reducible refine (known_b hb).mono ?_); clear hb; rintro e w1 ⟨rfl, hb⟩)
  have S0 := ps_new hb
  have P0 : PL w w1.heap.size (w1.heap.size + 1) Pb.off Pb.off ((w1.alloc (.cells #[.bool false, .bool false, .int .i64 0] 27)).alloc (.cells #[.bool false, .bool false, .int .i64 0] 29)) :=
    ⟨S0.later (bal _), by have h9 := heap_alloc_new (w1.alloc (.cells #[.bool false, .bool false, .int .i64 0] 27)) (.cells #[.bool false, .bool false, .int .i64 0] 29); rw [World.size_alloc] at h9; exact h9, by omega, by have := hb.size; omega⟩
  clear S0 hb
  obtain ⟨B, hB⟩ : ∃ B, w1.heap.size = B := ⟨_, rfl⟩
  rw [hB] at P0 ⊢
  obtain ⟨X, hX⟩ : ∃ X, B + 1 = X := ⟨_, rfl⟩
  rw [hX] at P0 ⊢
  clear hB hX
  go_loopw [5] (fun i wr => ∃ (k : Nat) (p : Pb), i = .int .i64 k ∧ k ≤ n ∧ k ≤ 200 ∧ PL w B X p p wr ∧ Hid (Inv p)) (fun i _ => 200 - (intOf i).toNat)
  case atStart => exact ⟨0, _, rfl, by omega, by omega, P0, Lib.hid fun _ => rfl⟩
  case round =>
    clear P0
    obtain ⟨k, p, rfl, hk, hk3, S, HI⟩ := hrel
    by_cases hlt : k < n ∧ k < 200
    case neg =>
      by_cases h1 : k < n
      · have h2 : ¬ k < 200 := by omega
        have hb := S.ps.below
        go_wp2_with (go_at_call 7; (with_reducible refine (known_b hb).mono ?_); clear hb; rintro e w1 ⟨rfl, hb⟩)
        go_ret
        exact ⟨rfl, hb⟩
      · have hb := S.ps.below
        go_wp2_with (go_at_call 7; (with_reducible refine (known_b hb).mono ?_); clear hb; rintro e w1 ⟨rfl, hb⟩)
        go_ret
        exact ⟨rfl, hb⟩
    obtain ⟨h1, h2⟩ := hlt
    obtain ⟨Bo, off, rfl, hc⟩ := HC.out (by omega)
    have hc := hc k h1
    generalize ops.getD k default = q at *
    have HO := Lib.hid (S.op q)
    have hxlt := lt_of_block S.x
    have HX := Lib.hid (show wr.cell? ⟨X, 0, none⟩ = some (.bool p.on) ∧ wr.cell? ⟨X, 1, none⟩ = some (.bool p.again) ∧ wr.cell? ⟨X, 2, none⟩ = some (.int .i64 p.fin) from ⟨cofr S.x 0 _ rfl, cofr S.x 1 _ rfl, cofr S.x 2 _ rfl⟩)
    obtain ⟨kind, fin, again, ⟨d1, d2⟩, isDup, bare⟩ := q
    obtain ⟨c0, c1, c2, c3, c4, c5, c6, ok⟩ := hc
    have hk0 := ok.1.1
    have hk1 := ok.1.2
    have hsb := S.ps.below
    dsimp only at *
    have lb := World.block_lt_of_cell? w _ c0
    replace c0 := (hsb.cell (p := ⟨Bo, off + k * 7, none⟩) lb).trans c0
    replace c1 := (hsb.cell (p := ⟨Bo, off + k * 7 + 1, none⟩) lb).trans c1
    replace c2 := (hsb.cell (p := ⟨Bo, off + k * 7 + 2, none⟩) lb).trans c2
    replace c3 := (hsb.cell (p := ⟨Bo, off + k * 7 + 3, none⟩) lb).trans c3
    replace c4 := (hsb.cell (p := ⟨Bo, off + k * 7 + 4, none⟩) lb).trans c4
    replace c5 := (hsb.cell (p := ⟨Bo, off + k * 7 + 5, none⟩) lb).trans c5
    replace c6 := (hsb.cell (p := ⟨Bo, off + k * 7 + 6, none⟩) lb).trans c6
    clear ok lb hsb S
    have x0 := HX.out.1; have x1 := HX.out.2.1; have x2 := HX.out.2.2
    clear HX
    by_cases hz : kind % 4 = 0
    · have hzb : (kind % 4 == 0) = true := by simpa using hz
      have HZ1 := Lib.hid hz
      have HRS := Lib.hid (rstart_any p fin again)
      have HSS := Lib.hid (fun W (S : PS w B p W) => start_ps S fin again)
      have HI2 := Lib.hid (inv_st (n := fin) (g := again) HI.out)
      clear hz
      generalize stP p fin again = p2 at *
      generalize stE p fin = e2 at *
      go_wp2_with (first
        | (go_at_call 10; (with_reducible refine (HRS.out _).mono ?_); rintro x w5 ⟨rfl, hb⟩; have R5 := HO.out.later hb; clear HO hb x0 x1 x2; have HR5 := Lib.hid (R5.set1 p2.on p2.again p2.fin); obtain ⟨x0, x1, x2, f0, f1, f2⟩ := R5.xs; obtain ⟨o0, o1, o2, o3, o4, o5, o6⟩ := R5.os; have hne := R5.ne2; obtain ⟨hne1, hne2⟩ := hne; have hxo := R5.xo; clear R5; dsimp only at o0 o1 o2 o3 o4 o5 o6)
        | (go_at_call 11; go_must ((with_reducible refine (HSS.out _ HR5.out.ps).mono ?_); rintro x w7 ⟨rfl, S7, hk7⟩; have R7 := HR5.out.wrote S7 hk7; clear HR5 S7 hk7 x0 x1 x2 f0 f1 f2 o0 o1 o2 o3 o4 o5 o6; obtain ⟨x0, x1, x2, f0, f1, f2⟩ := R7.xs)))
      have HQ := Lib.hid (three_q R7)
      have HPL := Lib.hid R7
      clear R7
      go_quiet (first | (go_at_call 15; go_must (exact HQ.out.1 _)) | (go_at_call 16; go_must (exact HQ.out.2.1 _)) | (go_at_call 17; go_must (exact HQ.out.2.2 _)))
      go_wp2_with fail
      go_roundw
      case rel => exact ⟨k + 1, p2, by go_num, by omega, by omega, (HPL.out.drewN nq).pl, HI2⟩
      case measure => simp [intOf]; omega
    have hzb : (kind % 4 == 0) = false := by simpa using hz
    clear hz
    by_cases hz : kind % 4 = 1
    · have hzb1 : (kind % 4 == 1) = true := by simpa using hz
      have hzb2 : (1 : Int) = kind % 4 := by omega
      have HZ1 := Lib.hid hz
      clear hz hzb2
      have HSS := Lib.hid (fun W (S : PS w B p W) => stop_ps S)
      rw [inv_stop HI.out] at HSS
      have HI2 : Hid (Inv Pb.off) := Lib.hid fun _ => rfl
      go_wp2_with fail
      have S7 := HO.out.drew
      clear HO x0 x1 x2
      go_region_held3 (fun w' => w'.cell? ⟨X, 0, none⟩ = some (.bool p.on) ∧ w'.cell? ⟨X, 1, none⟩ = some (.bool p.again) ∧ w'.cell? ⟨X, 2, none⟩ = some (.int .i64 p.fin)) (first | with_reducible exact S7.x3 | exact S7.x3 | go_keep)
        ((go_at_call 12; (with_reducible refine (HSS.out _ S7.ps).mono ?_); rintro x w7 ⟨rfl, T7, hk7⟩; replace S7 := S7.wrote T7 hk7; clear T7 hk7))
      obtain ⟨x0, x1, x2, f0, f1, f2⟩ := S7.xs
      have HS8 := Lib.hid (S7.set false false 0)
      clear S7
      go_wp2_with fail
      have R7 := HS8.out
      clear HS8 x0 x1 x2 f0 f1 f2
      obtain ⟨x0, x1, x2⟩ := R7.x3
      have HQ := Lib.hid (three_q R7)
      have HPL := Lib.hid R7
      clear R7
      go_quiet (first | (go_at_call 15; go_must (exact HQ.out.1 _)) | (go_at_call 16; go_must (exact HQ.out.2.1 _)) | (go_at_call 17; go_must (exact HQ.out.2.2 _)))
      go_wp2_with fail
      go_roundw
      case rel => exact ⟨k + 1, Pb.off, by go_num, by omega, by omega, (HPL.out.drewN nq).pl, HI2⟩
      case measure => simp [intOf]; omega
    · have hzb1 : (kind % 4 == 1) = false := by simpa using hz
      clear hz
      have HRS := Lib.hid (rtold_any p fin isDup (d1, d2) bare)
      have HSS := Lib.hid (fun W (S : PS w B p W) => told_ps S fin isDup (d1, d2) bare)
      have HI2 := Lib.hid (inv_tell (ack := fin) (isDup := isDup) (d := (d1, d2)) (bare := bare) HI.out)
      generalize tellP p fin isDup (d1, d2) bare = p2 at *
      generalize tellN p fin isDup (d1, d2) bare = e2 at *
      go_wp2_with (first
        | (go_at_call 13; (with_reducible refine (HRS.out _).mono ?_); rintro x w5 ⟨rfl, hb⟩; have R5 := HO.out.later hb; clear HO hb x0 x1 x2; have HR5 := Lib.hid (R5.set1 p2.on p2.again p2.fin); obtain ⟨x0, x1, x2, f0, f1, f2⟩ := R5.xs; obtain ⟨o0, o1, o2, o3, o4, o5, o6⟩ := R5.os; have hne := R5.ne2; obtain ⟨hne1, hne2⟩ := hne; have hxo := R5.xo; clear R5; dsimp only at o0 o1 o2 o3 o4 o5 o6)
        | (go_at_call 14; go_must ((with_reducible refine (HSS.out _ HR5.out.ps).mono ?_); rintro x w7 ⟨rfl, S7, hk7⟩; have R7 := HR5.out.wrote S7 hk7; clear HR5 S7 hk7 x0 x1 x2 f0 f1 f2 o0 o1 o2 o3 o4 o5 o6; obtain ⟨x0, x1, x2, f0, f1, f2⟩ := R7.xs)))
      have HQ := Lib.hid (three_q R7)
      have HPL := Lib.hid R7
      clear R7
      go_quiet (first | (go_at_call 15; go_must (exact HQ.out.1 _)) | (go_at_call 16; go_must (exact HQ.out.2.1 _)) | (go_at_call 17; go_must (exact HQ.out.2.2 _)))
      go_wp2_with fail
      go_roundw
      case rel => exact ⟨k + 1, p2, by go_num, by omega, by omega, (HPL.out.drewN nq).pl, HI2⟩
      case measure => simp [intOf]; omega
end Go.Proofs.Ytbmbibkomedooaa.pb
