/-
  Package segment: Encode of what may not be; Size.
-/
import Derived.Test.YtdfenlagokndkaaSegE
namespace Go.Proofs.Ytdfenlagokndkaa.sg
open Go.RowKit aid mem oc op sm
attribute [local go_sem ↓] Go.wp_at_zero Go.wp_at_succ
set_option linter.unusedVariables false

set_option maxRecDepth 100000 in
set_option maxHeartbeats 1600000 in
theorem sencode_no (s : Seg) (a : Option Addr) (n cap : Nat) (b : Option Addr) (m bc : Nat) (w : World) (hf : s.Fit) (hl : BlA w a n cap s.o.bl) (hb : SlA .u8 w b m bc s.body) (hk : schk s ≠ 0) :
    Calls Try.prog 12 #[segV s a n cap b m bc] w fun e w' => e = .returned (.tuple #[.slice none 0 0, .int .i64 (schk s)]) ∧ Below w.heap.size w w' := by
  have M0 := sm_new w s a n cap b m bc hl hb
  have HC := Lib.hid (fun W h1 h2 => scheck_any s a n cap b m bc W hf h1 h2)
  have hne : (schk s != 0) = true := by simpa using hk
  clear hl hb hk
  generalize schk s = c at *
  go_enter Try.func12, Try.ntmps12
  go_wp2_with fail
  generalize w.alloc (.cells #[.int .i64 s.kind, .int .u32 s.num, .int .i64 s.o.mss, .bool s.o.permit, .bool s.o.ts, .int .u32 s.o.val, .int .u32 s.o.ecr, .bool s.o.hs, .int .i64 s.o.scale, .slice a n cap, .slice b m bc] 28) = W at *
  refine (HC.out _ M0.bl M0.body).mono ?_
  rintro e w1 ⟨rfl, h1⟩
  have M1 := M0.later h1
  clear M0 h1
  go_wp2
  go_ret2
  exact ⟨rfl, M1.below⟩

/-- how many bytes it has -/
def sizeS (s : Seg) : Int := if schk s = 0 then ((sencL s).length : Int) else 0
theorem sizeS_ok {s : Seg} (h : schk s = 0) : sizeS s = 8 + sizeG s.o + s.body.length ∧ 0 ≤ sizeG s.o ∧ sizeG s.o ≤ 40 := by
  unfold sizeS
  rw [if_pos h, senc_len]
  have h1 := chk0_bl (schk0 h).2.1
  unfold sizeG
  rw [if_neg (by omega)]
  omega

set_option maxRecDepth 100000 in
set_option maxHeartbeats 1600000 in
theorem ssize_any (s : Seg) (a : Option Addr) (n cap : Nat) (b : Option Addr) (m bc : Nat) (w : World) (hf : s.Fit) (hl : BlA w a n cap s.o.bl) (hb : SlA .u8 w b m bc s.body) :
    Calls Try.prog 18 #[segV s a n cap b m bc] w (RetE (sizeS s) w) := by
  have M0 := sm_new w s a n cap b m bc hl hb
  have HC := Lib.hid (fun W h1 h2 => scheck_any s a n cap b m bc W hf h1 h2)
  by_cases hk : schk s = 0
  · have hlen := hb.len
    obtain ⟨h1, h2, h3⟩ := sizeS_ok hk
    have hm := (schk0 hk).2.2.2
    rw [hlen] at h1 hm
    rw [hk] at HC
    have HZ := Lib.hid (fun W h1 => size_any s.o a n cap W hf.o h1)
    unfold SizePost optCells at HZ
    generalize sizeS s = z at *
    generalize sizeG s.o = g at *
    have HH1 := Lib.hid h1
    have w1 : IntKind.i64.wrap (8 + g) = 8 + g := IntWalk.i64_in _ (by omega)
    have w2 : IntKind.i64.wrap (8 + g + (m : Int)) = 8 + g + (m : Int) := IntWalk.i64_in _ (by omega)
    clear hl hb hk h1 hlen
    go_enter Try.func18, Try.ntmps18
    go_wp2_with fail
    generalize w.alloc (.cells #[.int .i64 s.kind, .int .u32 s.num, .int .i64 s.o.mss, .bool s.o.permit, .bool s.o.ts, .int .u32 s.o.val, .int .u32 s.o.ecr, .bool s.o.hs, .int .i64 s.o.scale, .slice a n cap, .slice b m bc] 28) = W at *
    generalize hB : w.heap.size = B at M0
    have HB := Lib.hid hB
    clear hB
    refine (HC.out _ M0.bl M0.body).mono ?_
    rintro e w1 ⟨rfl, h1⟩
    have M1 := M0.later h1
    clear M0 h1
    go_wp2_with fail
    have D1 := M1.later (Below.refl _ _).drew
    go_region_held3 (fun w' => w'.cell? ⟨B, 0, none⟩ = some (.int .i64 s.kind) ∧ w'.cell? ⟨B, 1, none⟩ = some (.int .u32 s.num) ∧ w'.cell? ⟨B, 2, none⟩ = some (.int .i64 s.o.mss) ∧ w'.cell? ⟨B, 3, none⟩ = some (.bool s.o.permit) ∧ w'.cell? ⟨B, 4, none⟩ = some (.bool s.o.ts) ∧ w'.cell? ⟨B, 5, none⟩ = some (.int .u32 s.o.val) ∧ w'.cell? ⟨B, 6, none⟩ = some (.int .u32 s.o.ecr) ∧ w'.cell? ⟨B, 7, none⟩ = some (.bool s.o.hs) ∧ w'.cell? ⟨B, 8, none⟩ = some (.int .i64 s.o.scale) ∧ w'.cell? ⟨B, 9, none⟩ = some (.slice a n cap) ∧ w'.cell? ⟨B, 10, none⟩ = some (.slice b m bc)) (first | with_reducible exact D2.at_.cs.all | with_reducible exact D1.at_.cs.all | with_reducible exact M1.at_.cs.all | go_keep) (first
      | (go_at_call 61; (with_reducible refine (HZ.out _ D1.bl).mono ?_); rintro e w3 ⟨rfl, h3⟩; have D2 := D1.later h3; clear D1 M1 h3))
    all_goals
      go_wp2
      go_ret
      exact ⟨ret_i HH1.out.symm, D2.below⟩
  · have hz : Hid (sizeS s = 0) := Lib.hid (by unfold sizeS; rw [if_neg hk])
    have hne : (schk s != 0) = true := by simpa using hk
    clear hl hb hk
    generalize schk s = c at *
    go_enter Try.func18, Try.ntmps18
    go_wp2_with fail
    generalize w.alloc (.cells #[.int .i64 s.kind, .int .u32 s.num, .int .i64 s.o.mss, .bool s.o.permit, .bool s.o.ts, .int .u32 s.o.val, .int .u32 s.o.ecr, .bool s.o.hs, .int .i64 s.o.scale, .slice a n cap, .slice b m bc] 28) = W at *
    refine (HC.out _ M0.bl M0.body).mono ?_
    rintro e w1 ⟨rfl, h1⟩
    have M1 := M0.later h1
    clear M0 h1
    go_wp2
    go_ret
    exact ⟨ret_i hz.out.symm, M1.below⟩
end Go.Proofs.Ytdfenlagokndkaa.sg
