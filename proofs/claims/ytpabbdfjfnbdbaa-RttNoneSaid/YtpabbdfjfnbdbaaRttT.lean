/-
  What is the document's; the fixed calls of layer 11's law.
-/
import Derived.Test.YtpabbdfjfnbdbaaRttS
namespace Go.Proofs.Ytpabbdfjfnbdbaa.rt
open Go.RowKit aid mem
attribute [local go_sem ↓] Go.wp_at_zero Go.wp_at_succ
set_option linter.unusedVariables false

/-- an estimate of one's own -/
structure ES (w0 : World) (B : Nat) (e : Es) (w : World) : Prop where
  es : EsAt w B e
  ok : Ok e
  below : Below w0.heap.size w0 w
  le : w0.heap.size ≤ B
theorem ES.later {w0 w w' : World} {B : Nat} {e : Es} (h : ES w0 B e w) (hb : Below w.heap.size w w') : ES w0 B e w' := ⟨h.es.later hb, h.ok, h.below.trans (hb.mono h.below.size), h.le⟩
theorem ES.drew {w0 w : World} {B : Nat} {e : Es} (h : ES w0 B e w) : ES w0 B e w.drew := ⟨h.es, h.ok, h.below.drew, h.le⟩
theorem ES.drewN {w0 w : World} {B : Nat} {e : Es} (h : ES w0 B e w) (n : Nat) : ES w0 B e (w.drewN n) := h.later ⟨rfl, rfl, rfl, Nat.le_refl _, fun _ _ => rfl⟩
theorem Q.below {f : FuncId} {args : Array Value} {v : Value} {w : World} (h : Q f args v w) : Calls Try.prog f args w fun e w' => e = .returned v ∧ Below w.heap.size w w' :=
  (h.at).mono fun e w' ⟨h1, n, h2⟩ => ⟨h1, h2 ▸ ⟨rfl, rfl, rfl, Nat.le_refl _, fun _ _ => rfl⟩⟩
theorem new_es {w0 w : World} (hB : Below w0.heap.size w0 w) {l m : Int} (h : 1 ≤ l ∧ l ≤ m ∧ m ≤ 68719476736) : Calls Try.prog 8 #[.int .i64 l, .int .i64 m] w
    fun x w' => ∃ B, x = .returned (.tuple #[.pointer (some ⟨B, 0, none⟩), .int .i64 0]) ∧ ES w0 B ⟨l, m, 0, 0, false, 0⟩ w' :=
  (new_ok_any h).mono fun x w' ⟨h1, h2, h3⟩ => ⟨_, h1, h2, new_ok h.1 h.2.1 h.2.2, hB.trans (h3.mono hB.size), hB.size⟩
theorem rto_es {w0 w : World} {B : Nat} {e : Es} (h : ES w0 B e w) : Calls Try.prog 16 #[.pointer (some ⟨B, 0, none⟩)] w fun x w' => x = .returned (.int .i64 (rto e)) ∧ ES w0 B e w' :=
  ((rto_q h.es h.ok).below).mono fun x w' ⟨h1, h2⟩ => ⟨h1, h.later h2⟩
theorem has_es {w0 w : World} {B : Nat} {e : Es} (h : ES w0 B e w) : Calls Try.prog 17 #[.pointer (some ⟨B, 0, none⟩)] w fun x w' => x = .returned (.bool e.has) ∧ ES w0 B e w' :=
  ((has_q h.es).below).mono fun x w' ⟨h1, h2⟩ => ⟨h1, h.later h2⟩
theorem srtt_es {w0 w : World} {B : Nat} {e : Es} (h : ES w0 B e w) : Calls Try.prog 18 #[.pointer (some ⟨B, 0, none⟩)] w fun x w' => x = .returned (.int .i64 e.srtt) ∧ ES w0 B e w' :=
  ((srtt_q h.es).below).mono fun x w' ⟨h1, h2⟩ => ⟨h1, h.later h2⟩
theorem var_es {w0 w : World} {B : Nat} {e : Es} (h : ES w0 B e w) : Calls Try.prog 19 #[.pointer (some ⟨B, 0, none⟩)] w fun x w' => x = .returned (.int .i64 e.vary) ∧ ES w0 B e w' :=
  ((var_q h.es).below).mono fun x w' ⟨h1, h2⟩ => ⟨h1, h.later h2⟩
theorem sample_es {w0 w : World} {B : Nat} {e : Es} (h : ES w0 B e w) {r : Int} (hr : 0 ≤ r ∧ r ≤ 68719476736) : Calls Try.prog 13 #[.pointer (some ⟨B, 0, none⟩), .int .i64 r] w fun x w' => x = .returned (.int .i64 0) ∧ ES w0 B (smp e r) w' ∧ Kept [B] w w' :=
  (sample_any h.es h.ok hr).mono fun x w' ⟨h1, h2, h3⟩ => ⟨h1, ⟨h2, h.ok.smp hr, h.below.trans (h3.below (by simpa using h.le) h.below.size), h.le⟩, h3⟩
theorem backoff_es {w0 w : World} {B : Nat} {e : Es} (h : ES w0 B e w) : Calls Try.prog 12 #[.pointer (some ⟨B, 0, none⟩)] w fun x w' => x = .returned (.bool (bckB e)) ∧ ES w0 B (bck e) w' ∧ Kept [B] w w' :=
  (backoff_any h.es h.ok).mono fun x w' ⟨h1, h2, h3⟩ => ⟨h1, ⟨h2, h.ok.bck, h.below.trans (h3.below (by simpa using h.le) h.below.size), h.le⟩, h3⟩

theorem known_any (w : World) : Calls Try.prog 7 #[] w fun x w' => x = .returned (.bool true) ∧ Below w.heap.size w w' := by
  have r0 : rto ⟨200000, 60000000, 0, 0, false, 0⟩ = 1000000 := by decide
  have r1 : rto ⟨200000, 60000000, 100000, 50000, true, 0⟩ = 300000 := by decide
  have r2 : rto ⟨200000, 60000000, 100000, 50000, true, 1⟩ = 600000 := by decide
  have b1 : bckB ⟨200000, 60000000, 100000, 50000, true, 0⟩ = true := by decide
  have R0 := Lib.hid r0; have R1 := Lib.hid r1; have R2 := Lib.hid r2; have B1 := Lib.hid b1
  have M1 := Lib.hid (show smp ⟨200000, 60000000, 0, 0, false, 0⟩ 100000 = ⟨200000, 60000000, 100000, 50000, true, 0⟩ from rfl)
  have M2 := Lib.hid (show bck ⟨200000, 60000000, 100000, 50000, true, 0⟩ = ⟨200000, 60000000, 100000, 50000, true, 1⟩ from rfl)
  clear r0 r1 r2 b1
  go_enter Try.func7, Try.ntmps7
  go_wp2_with (first
    | (go_at_call 8; (with_reducible refine (new_es (Below.refl _ _) (by decide)).mono ?_); rintro x w1 ⟨b, rfl, S0⟩)
    | (go_at_call 16; (with_reducible refine (rto_es S0).mono ?_); rintro x w1 ⟨rfl, S1⟩; clear S0; rw [R0.out])
    | (go_at_call 13; (with_reducible refine (sample_es S1 (by decide)).mono ?_); rintro x w1 ⟨rfl, S2, q⟩; clear S1 q; rw [M1.out] at S2)
    | (go_at_call 16; (with_reducible refine (rto_es S2).mono ?_); rintro x w1 ⟨rfl, S3⟩; clear S2; rw [R1.out])
    | (go_at_call 12; (with_reducible refine (backoff_es S3).mono ?_); rintro x w1 ⟨rfl, S4, q⟩; clear S3 q; rw [M2.out] at S4; rw [B1.out])
    | (go_at_call 16; (with_reducible refine (rto_es S4).mono ?_); rintro x w1 ⟨rfl, S5⟩; clear S4; rw [R2.out]))
  go_ret
  exact ⟨rfl, S5.below⟩

theorem known_b {w0 w : World} (hb : Below w0.heap.size w0 w) : Calls Try.prog 7 #[] w fun x w' => x = .returned (.bool true) ∧ Below w0.heap.size w0 w' :=
  (known_any w).mono fun x w' ⟨h1, h2⟩ => ⟨h1, hb.trans (h2.mono hb.size)⟩
theorem known_es {w0 w : World} {B : Nat} {e : Es} (h : ES w0 B e w) : Calls Try.prog 7 #[] w fun x w' => x = .returned (.bool true) ∧ ES w0 B e w' :=
  (known_any w).mono fun x w' ⟨h1, h2⟩ => ⟨h1, h.later h2⟩
/-- the estimate, and the document's in a box -/
structure Eq (w0 : World) (B : Nat) (e : Es) (X : Nat) (w : World) : Prop where
  s : EsAt w B e
  x : w.heap[X]? = some (.cells (cellsE e) 30 (0, 0))
  below : Below w0.heap.size w0 w
theorem Eq.later {w0 w w' : World} {B X : Nat} {e : Es} (h : Eq w0 B e X w) (hb : Below w.heap.size w w') : Eq w0 B e X w' := ⟨h.s.later hb, (hb.block X (lt_of_block h.x)).trans h.x, h.below.trans (hb.mono h.below.size)⟩
theorem Eq.rc {w0 w : World} {B X : Nat} {e : Es} (h : Eq w0 B e X w) : RC X e w := ⟨cofr h.x 0 _ rfl, cofr h.x 1 _ rfl, cofr h.x 2 _ rfl, cofr h.x 3 _ rfl, cofr h.x 4 _ rfl, cofr h.x 5 _ rfl⟩
theorem Eq.drew {w0 w : World} {B X : Nat} {e : Es} (h : Eq w0 B e X w) : Eq w0 B e X w.drew := ⟨h.s, h.x, h.below.drew⟩
set_option maxHeartbeats 2000000 in
theorem equal_any {w : World} {B : Nat} {e : Es} (h : EsAt w B e) (ho : Ok e) : Calls Try.prog 15 #[.pointer (some ⟨B, 0, none⟩), rsV e] w fun x w' => x = .returned (.bool true) ∧ Below w.heap.size w w' := by
  have hb0 : Below w.heap.size w (w.alloc (.cells (cellsE e) 30)) := (Below.refl _ _).alloc (Nat.le_refl _) _
  have S : Eq w B e w.heap.size (w.alloc (.cells (cellsE e) 30)) := ⟨h.later hb0, heap_alloc_new w _, hb0⟩
  have H1 := Lib.hid (fun W (S : EsAt W B e) => (rto_q S ho).below)
  have H2 := Lib.hid (fun W => rrto_any (w := W) ho)
  have H3 := Lib.hid (fun W (S : EsAt W B e) => (srtt_q S).below)
  have H4 := Lib.hid (fun W (S : EsAt W B e) => (var_q S).below)
  have H5 := Lib.hid (fun W (S : EsAt W B e) => (has_q S).below)
  have H6 := Lib.hid (fun W (S : EsAt W B e) => (dbl_q S).below)
  clear h hb0
  generalize rto e = r at *
  go_enter Try.func15, Try.ntmps15
  go_wp2_with fail
  generalize hX : w.heap.size = X at *
  replace S := S.drew
  go_region_held3 (fun w' => w'.cell? ⟨X, 0, none⟩ = some (.int .i64 e.least) ∧ w'.cell? ⟨X, 1, none⟩ = some (.int .i64 e.most) ∧ w'.cell? ⟨X, 2, none⟩ = some (.int .i64 e.srtt) ∧ w'.cell? ⟨X, 3, none⟩ = some (.int .i64 e.vary) ∧ w'.cell? ⟨X, 4, none⟩ = some (.bool e.has) ∧ w'.cell? ⟨X, 5, none⟩ = some (.int .i64 e.dbl)) (first | exact S.rc | go_keep)
    (first
    | (go_at_call 16; (with_reducible refine (H1.out _ S.s).mono ?_); rintro x w1 ⟨rfl, hb⟩; replace S := S.later hb; clear hb)
    | (go_at_call 21; (with_reducible refine (H2.out _).mono ?_); rintro x w1 ⟨rfl, hb⟩; replace S := S.later hb; clear hb)
    | (go_at_call 18; (with_reducible refine (H3.out _ S.s).mono ?_); rintro x w1 ⟨rfl, hb⟩; replace S := S.later hb; clear hb)
    | (go_at_call 19; (with_reducible refine (H4.out _ S.s).mono ?_); rintro x w1 ⟨rfl, hb⟩; replace S := S.later hb; clear hb)
    | (go_at_call 17; (with_reducible refine (H5.out _ S.s).mono ?_); rintro x w1 ⟨rfl, hb⟩; replace S := S.later hb; clear hb)
    | (go_at_call 20; (with_reducible refine (H6.out _ S.s).mono ?_); rintro x w1 ⟨rfl, hb⟩; replace S := S.later hb; clear hb))
  go_wp2
  go_ret
  exact ⟨rfl, S.below⟩
end Go.Proofs.Ytpabbdfjfnbdbaa.rt
