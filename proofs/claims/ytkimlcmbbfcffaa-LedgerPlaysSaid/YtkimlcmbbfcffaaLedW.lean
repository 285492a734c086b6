/-
  Package ledger: one in memory; its calls.
-/
import Derived.Test.YtkimlcmbbfcffaaRunW
import Derived.Test.YtkimlcmbbfcffaaLedX
import Derived.Laws.StructEq
import Derived.Deep.DrawnRows
import Derived.StillTailTactics
import Derived.IntWalk
namespace Go.Proofs.Ytkimlcmbbfcffaa.lg
open Go.RowKit aid mem sp rn
attribute [local go_sem ↓] Go.wp_at_zero Go.wp_at_succ
set_option linter.unusedVariables false
set_option linter.unusedSimpArgs false

abbrev cellsL (x : Ld) (a : Option Addr) (n cap : Nat) : Array Value := #[.bool x.op, .int .i64 (pcw x), .int .i64 (pth x), .slice a n cap, .bool x.sp]
/-- block B holds one -/
structure LdAt (w : World) (B : Nat) (x : Ld) (a : Option Addr) (n cap : Nat) : Prop where
  hdr : w.heap[B]? = some (.cells (cellsL x a n cap) 50 (0, 0))
  row : SlR w 32 2 a n cap (spCells x.l)
section
variable {w w' : World} {B : Nat} {x : Ld} {a : Option Addr} {n cap : Nat} (h : LdAt w B x a n cap)
include h
theorem LdAt.len : x.l.length = n := row_len h.row
theorem LdAt.later (hb : Below w.heap.size w w') : LdAt w' B x a n cap := ⟨(hb.block B (lt_of_block h.hdr)).trans h.hdr, h.row.later hb⟩
theorem LdAt.lt : B < w.heap.size := lt_of_block h.hdr
theorem LdAt.cs : w.cell? ⟨B, 0, none⟩ = some (.bool x.op) ∧ w.cell? ⟨B, 1, none⟩ = some (.int .i64 (pcw x)) ∧ w.cell? ⟨B, 2, none⟩ = some (.int .i64 (pth x)) ∧ w.cell? ⟨B, 3, none⟩ = some (.slice a n cap) ∧ w.cell? ⟨B, 4, none⟩ = some (.bool x.sp) :=
  ⟨cofr h.hdr 0 _ rfl, cofr h.hdr 1 _ rfl, cofr h.hdr 2 _ rfl, cofr h.hdr 3 _ rfl, cofr h.hdr 4 _ rfl⟩
theorem LdAt.f (i : Nat) : w.frozen? ⟨B, i, none⟩ = false := fofr h.hdr i
theorem LdAt.ne : B ∉ blk a cap := by
  intro hb
  obtain ⟨_, cur, hc⟩ := h.row.lt B hb
  rw [h.hdr] at hc
  simp at hc
end
/-- one at B, whose row is in S -/
def Ow (B : Nat) (x : Ld) (S : List Nat) (w : World) : Prop := ∃ a n cap, LdAt w B x a n cap ∧ S = blk a cap
theorem Ow.later {w w' : World} {B : Nat} {x : Ld} {S : List Nat} (h : Ow B x S w) (hb : Below w.heap.size w w') : Ow B x S w' := by
  obtain ⟨a, n, cap, h, rfl⟩ := h
  exact ⟨a, n, cap, h.later hb, rfl⟩
theorem Ow.keep {w w' : World} {B : Nat} {x : Ld} {S T : List Nat} (h : Ow B x S w) (hk : Kept T w w') (hd : ∀ b ∈ B :: S, b ∉ T) : Ow B x S w' := by
  obtain ⟨a, n, cap, h, rfl⟩ := h
  exact ⟨a, n, cap, ⟨hk.heap (hd B (by simp)) h.hdr, h.row.keep hk (fun b hb => hd b (by simp [hb]))⟩, rfl⟩
theorem Ow.lt {w : World} {B : Nat} {x : Ld} {S : List Nat} (h : Ow B x S w) : ∀ b ∈ B :: S, b < w.heap.size := by
  obtain ⟨a, n, cap, h, rfl⟩ := h
  intro b hb
  rcases List.mem_cons.1 hb with rfl | hb
  · exact h.lt
  · exact (h.row.lt b hb).1
/-- behind a call that changes it -/
def RetL (v : Value) (B : Nat) (x' : Ld) (S : List Nat) (w : World) (e : Ending) (w' : World) : Prop :=
  e = .returned v ∧ ∃ S', Ow B x' S' w' ∧ Kept (B :: S) w w' ∧ ∀ b ∈ S', b ∈ S ∨ w.heap.size ≤ b
theorem RetL.same {v : Value} {B : Nat} {x x' : Ld} {a : Option Addr} {n cap : Nat} {w w' : World} (h : LdAt w B x a n cap) (h2 : w'.heap[B]? = some (.cells (cellsL x' a n cap) 50 (0, 0))) (hl : x'.l = x.l) (hk : Kept [B] w w') : RetL v B x' (blk a cap) w (.returned v) w' := by
  refine ⟨rfl, blk a cap, ⟨a, n, cap, ⟨h2, ?_⟩, rfl⟩, hk.mono (fun b hb => .inl (by simp at hb; simp [hb])), fun b hb => .inl hb⟩
  rw [hl]
  exact h.row.keep hk (fun b hb e => by simp at e; subst e; exact h.ne hb)
theorem kset (w : World) (B i : Nat) (u : Value) : Kept [B] w (w.setCell ⟨B, i, none⟩ u) := (Kept.refl [B] w).setCell (.inl (by simp)) u
theorem kd (w : World) (n : Nat) (S : List Nat) : Kept S w (w.drewN n) := (Kept.refl S w).drewN n
abbrev put3 (B : Nat) (o : Bool) (u v : Int) (W : World) : World := ((W.setCell ⟨B, 0, none⟩ (.bool o)).setCell ⟨B, 1, none⟩ (.int .i64 u)).setCell ⟨B, 2, none⟩ (.int .i64 v)
theorem put3_at {W : World} {B : Nat} {a b c d e : Value} {T : TypeId} (h : W.heap[B]? = some (.cells #[a, b, c, d, e] T (0, 0))) (o : Bool) (u v : Int) : (put3 B o u v W).heap[B]? = some (.cells #[.bool o, .int .i64 u, .int .i64 v, d, e] T (0, 0)) := by
  have g0 : (W.setCell ⟨B, 0, none⟩ (.bool o)).heap[B]? = some (.cells #[.bool o, b, c, d, e] T (0, 0)) := heap_setCell_same W B 0 _ _ _ h
  have g1 := heap_setCell_same (W.setCell ⟨B, 0, none⟩ (.bool o)) B 1 _ _ (.int .i64 u) g0
  exact heap_setCell_same _ B 2 _ _ _ g1
theorem put3_kept (B : Nat) (o : Bool) (u v : Int) (W : World) : Kept [B] W (put3 B o u v W) := ((kset W B 0 _).trans (kset _ B 1 _) (by simp)).trans (kset _ B 2 _) (by simp)
/-- a call that changes nothing but draws -/
def Q (f : FuncId) (args : Array Value) (v : Value) (w : World) : Prop := ∀ n, Calls Try.prog f args (w.drewN n) fun e w'' => e = .returned v ∧ ∃ m, w'' = w.drewN m
theorem Q.mk {f : FuncId} {args : Array Value} {v : Value} {w : World} (h : ∀ n, Calls Try.prog f args (w.drewN n) fun e w'' => e = .returned v ∧ ∃ m, w'' = (w.drewN n).drewN m) : Q f args v w := fun n =>
  (h n).mono fun _ _ ⟨he, m, hm⟩ => ⟨he, n + m, by rw [hm, World.drewN_drewN]⟩
theorem Q.at {f : FuncId} {args : Array Value} {v : Value} {w : World} (h : Q f args v w) : Calls Try.prog f args w fun e w'' => e = .returned v ∧ ∃ m, w'' = w.drewN m := h 0
theorem Q.below {f : FuncId} {args : Array Value} {v : Value} {w : World} (h : Q f args v w) : Calls Try.prog f args w fun e w' => e = .returned v ∧ Below w.heap.size w w' :=
  (h.at).mono fun e w' ⟨h1, n, h2⟩ => ⟨h1, h2 ▸ ⟨rfl, rfl, rfl, Nat.le_refl _, fun _ _ => rfl⟩⟩
/-! what is asked -/
theorem open_q {w : World} {B : Nat} {x : Ld} {S : List Nat} (h : Ow B x S w) : Q 11 #[.pointer (some ⟨B, 0, none⟩)] (.bool x.op) w := by
  refine Q.mk fun m => ?_
  obtain ⟨a, n, cap, h, rfl⟩ := h
  have c0 : (w.drewN m).cell? ⟨B, 0, none⟩ = some (.bool x.op) := h.cs.1
  generalize w.drewN m = w at *
  go_enter Try.func11, Try.ntmps11
  go_wp2
  go_ret
  exact ⟨rfl, 0, rfl⟩
theorem spilt_q {w : World} {B : Nat} {x : Ld} {S : List Nat} (h : Ow B x S w) : Q 13 #[.pointer (some ⟨B, 0, none⟩)] (.bool x.sp) w := by
  refine Q.mk fun m => ?_
  obtain ⟨a, n, cap, h, rfl⟩ := h
  have c4 : (w.drewN m).cell? ⟨B, 4, none⟩ = some (.bool x.sp) := h.cs.2.2.2.2
  generalize w.drewN m = w at *
  go_enter Try.func13, Try.ntmps13
  go_wp2
  go_ret
  exact ⟨rfl, 0, rfl⟩
theorem pending_q {w : World} {B : Nat} {x : Ld} {S : List Nat} (h : Ow B x S w) : Q 12 #[.pointer (some ⟨B, 0, none⟩)] (.int .i64 x.l.length) w := by
  refine Q.mk fun m => ?_
  obtain ⟨a, n, cap, h, rfl⟩ := h
  have c3 : (w.drewN m).cell? ⟨B, 3, none⟩ = some (.slice a n cap) := h.cs.2.2.2.1
  rw [h.len]
  generalize w.drewN m = w at *
  go_enter Try.func12, Try.ntmps12
  go_wp2
  go_ret
  exact ⟨rfl, 0, rfl⟩
theorem none_q (w : World) : Q 11 #[.pointer none] (.bool false) w ∧ Q 13 #[.pointer none] (.bool false) w ∧ Q 12 #[.pointer none] (.int .i64 0) w ∧ Q 9 #[.pointer none] (.pointer none) w ∧ (∀ c t, Q 16 #[.pointer none, .int .i64 c, .int .i64 t] (.bool false) w) := by
  refine ⟨?_, ?_, ?_, ?_, fun c t => ?_⟩ <;> refine Q.mk fun n => ?_ <;> generalize w.drewN n = w
  · go_enter Try.func11, Try.ntmps11
    go_wp2
    go_ret
    exact ⟨rfl, 0, rfl⟩
  · go_enter Try.func13, Try.ntmps13
    go_wp2
    go_ret
    exact ⟨rfl, 0, rfl⟩
  · go_enter Try.func12, Try.ntmps12
    go_wp2
    go_ret
    exact ⟨rfl, 0, rfl⟩
  · go_enter Try.func9, Try.ntmps9
    go_wp2
    go_ret
    exact ⟨rfl, 0, rfl⟩
  · go_enter Try.func16, Try.ntmps16
    go_wp2
    go_ret
    exact ⟨rfl, 0, rfl⟩
theorem new_any (w : World) : Calls Try.prog 8 #[] w fun e w' => e = .returned (.pointer (some ⟨w.heap.size, 0, none⟩)) ∧ Ow w.heap.size ⟨false, 0, 0, [], false⟩ [] w' ∧ Below w.heap.size w w' := by
  go_enter Try.func8, Try.ntmps8
  go_wp2_with fail
  go_ret
  exact ⟨rfl, ⟨none, 0, 0, ⟨heap_alloc_new w _, SlR.nil _ _ 2⟩, rfl⟩, bal _⟩
set_option maxHeartbeats 1000000 in
theorem cut_any {w : World} {B : Nat} {x : Ld} {S : List Nat} (h : Ow B x S w) (c t : Int) : Calls Try.prog 16 #[.pointer (some ⟨B, 0, none⟩), .int .i64 c, .int .i64 t] w (RetL (.bool (!x.op)) B (cutX x c t) S w) := by
  obtain ⟨a, n, cap, h, rfl⟩ := h
  have HA := Lib.hid h
  obtain ⟨c0, c1, c2, c3, c4⟩ := h.cs
  have f0 := h.f 0; have f1 := h.f 1; have f2 := h.f 2
  clear h
  cases ho : x.op with
  | true =>
    rw [ho] at c0
    have HX : Hid (cutX x c t = x) := Lib.hid (by unfold cutX; rw [if_pos ho])
    rw [HX.out]
    clear HX ho
    go_enter Try.func16, Try.ntmps16
    go_wp2_with fail
    go_ret
    exact RetL.same HA.out HA.out.hdr rfl (Kept.refl _ _)
  | false =>
    rw [ho] at c0
    have HX : Hid (cutX x c t = ⟨true, c, t, x.l, x.sp⟩) := Lib.hid (by unfold cutX; rw [if_neg (by simp [ho])])
    rw [HX.out]
    clear HX ho
    go_enter Try.func16, Try.ntmps16
    go_wp2_with fail
    go_ret
    exact RetL.same HA.out (put3_at HA.out.hdr true c t) rfl (put3_kept _ _ _ _ _)
/-- what a ledger tells that is given back -/
def fV (x : Ld) (b : Bool) : Value := .tuple #[.int .i64 (if b = true then x.cw else 0), .int .i64 (if b = true then x.th else 0), .bool b]
theorem fV_no (x : Ld) : fV x false = .tuple #[.int .i64 0, .int .i64 0, .bool false] := rfl
theorem fV_yes (x : Ld) : fV x true = .tuple #[.int .i64 x.cw, .int .i64 x.th, .bool true] := rfl
set_option maxHeartbeats 1000000 in
theorem force_any {w : World} {B : Nat} {x : Ld} {S : List Nat} (h : Ow B x S w) : Calls Try.prog 19 #[.pointer (some ⟨B, 0, none⟩)] w (RetL (fV x x.op) B (forceX x) S w) := by
  have HQ := Lib.hid (open_q h)
  have HOW := Lib.hid h
  obtain ⟨a, n, cap, h, rfl⟩ := h
  have HA := Lib.hid h
  clear h
  cases ho : x.op with
  | false =>
    rw [ho] at HQ
    have HX : Hid (forceX x = x) := Lib.hid (by unfold forceX; cases x; simp at ho; simp [ho])
    rw [HX.out, fV_no]
    clear HX ho
    go_enter Try.func19, Try.ntmps19
    go_wp2_with (go_at_call 11; (with_reducible refine (HQ.out.at).mono ?_); rintro e w1 ⟨rfl, m, rfl⟩)
    go_ret3
    exact RetL.same HA.out (show (w.drewN m).heap[B]? = _ from HA.out.hdr) rfl (kd _ _ _)
  | true =>
    rw [ho] at HQ
    have HP : Hid (pcw x = x.cw ∧ pth x = x.th) := Lib.hid (by unfold pcw pth; rw [if_pos ho, if_pos ho]; exact ⟨rfl, rfl⟩)
    have HF : Hid (pcw (forceX x) = 0 ∧ pth (forceX x) = 0) := Lib.hid ⟨rfl, rfl⟩
    rw [fV_yes]
    clear ho
    go_enter Try.func19, Try.ntmps19
    go_upto_region 3 with (go_at_call 11; (with_reducible refine (HQ.out.at).mono ?_); rintro e w1 ⟨rfl, m, rfl⟩)
    have h := HA.out
    have hm : LdAt (w.drewN m) B x a n cap := ⟨h.hdr, ⟨h.row.len, h.row.le, h.row.most, h.row.rest⟩⟩
    have HK := Lib.hid (kd w m [B])
    clear h
    generalize w.drewN m = W at *
    obtain ⟨c0, c1, c2, c3, c4⟩ := hm.cs
    rw [HP.out.1] at c1
    rw [HP.out.2] at c2
    have hb := bal (w := W) (.cells #[.bool x.op, .int .i64 x.cw, .int .i64 x.th] 48)
    have hx := heap_alloc_new W (.cells #[.bool x.op, .int .i64 x.cw, .int .i64 x.th] 48)
    have hm2 := hm.later hb
    have HK2 := Lib.hid (HK.out.trans (Kept.of_below hb (Nat.le_refl _) [B]) (fun _ h => .inl h))
    have hne : B ≠ W.heap.size := Nat.ne_of_lt hm.lt
    go_upto_region 4 with fail
    clear hm hb c0 c1 c2 c3 c4
    generalize W.alloc (.cells #[.bool x.op, .int .i64 x.cw, .int .i64 x.th] 48) = V at *
    generalize W.heap.size = X at *
    have d1 := cofr hx 1 _ rfl; have d2 := cofr hx 2 _ rfl
    obtain ⟨c0, c1, c2, c3, c4⟩ := hm2.cs
    have f0 := hm2.f 0; have f1 := hm2.f 1; have f2 := hm2.f 2
    have hP := put3_at hm2.hdr false 0 0
    have hPK := put3_kept B false 0 0 V
    have hx2 := hPK.heap (by simpa using Ne.symm hne) hx
    have HFIN := Lib.hid (show RetL (.tuple #[.int .i64 x.cw, .int .i64 x.th, .bool true]) B (forceX x) (blk a cap) w (.returned (.tuple #[.int .i64 x.cw, .int .i64 x.th, .bool true])) (put3 B false 0 0 V) from
      RetL.same HA.out (by rw [hP]; unfold cellsL; rw [HF.out.1, HF.out.2]; rfl) rfl (HK2.out.trans hPK (fun _ h => .inl h)))
    clear hP hPK hm2
    go_upto_region 5 with fail
    unfold put3 at HFIN hx2
    clear d1 d2 c0 c1 c2 c3 c4 f0 f1 f2 hx
    generalize ((V.setCell ⟨B, 0, none⟩ (.bool false)).setCell ⟨B, 1, none⟩ (.int .i64 0)).setCell ⟨B, 2, none⟩ (.int .i64 0) = U at *
    have d1 : U.cell? ⟨X, 1, none⟩ = some (.int .i64 x.cw) := cofr hx2 1 _ rfl
    have d2 : U.cell? ⟨X, 2, none⟩ = some (.int .i64 x.th) := cofr hx2 2 _ rfl
    go_quiet (fail)
    go_wp2_with fail
    go_ret3
    obtain ⟨_, S', ⟨a', n', cap', h1, h2⟩, h3, h4⟩ := HFIN.out
    exact ⟨rfl, S', ⟨a', n', cap', ⟨h1.hdr, ⟨h1.row.len, h1.row.le, h1.row.most, h1.row.rest⟩⟩, h2⟩, h3.drewN _, h4⟩
end Go.Proofs.Ytkimlcmbbfcffaa.lg
