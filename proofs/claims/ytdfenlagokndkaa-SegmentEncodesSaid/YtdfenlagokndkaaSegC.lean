/-
  Package segment: looks one behind the other; Check, Size.
-/
import Derived.Test.YtdfenlagokndkaaSegW
namespace Go.Proofs.Ytdfenlagokndkaa.sg
open Go.RowKit aid mem oc op
set_option linter.unusedVariables false

set_option maxRecDepth 100000 in
set_option maxHeartbeats 1600000 in
theorem first_any (K0 K1 K2 K3 : Nat) (C0 C1 C2 C3 : Array Value) (P : Nat → World → Prop) (Q : Int → World → Prop) (hA : ∀ k w o, P k w → P k (w.alloc o))
    (e0 : ∀ w, (callFunc K0 C0).run Try.prog w = .ok (.enter K0 C0) w) (e1 : ∀ w, (callFunc K1 C1).run Try.prog w = .ok (.enter K1 C1) w) (e2 : ∀ w, (callFunc K2 C2).run Try.prog w = .ok (.enter K2 C2) w) (e3 : ∀ w, (callFunc K3 C3).run Try.prog w = .ok (.enter K3 C3) w)
    (h0 : ∀ w, P 0 w → Calls Try.prog K0 C0 w (LPost P Q 0)) (h1 : ∀ w, P 1 w → Calls Try.prog K1 C1 w (LPost P Q 1)) (h2 : ∀ w, P 2 w → Calls Try.prog K2 C2 w (LPost P Q 2)) (h3 : ∀ w, P 3 w → Calls Try.prog K3 C3 w (LPost P Q 3))
    (w : World) (hw : P 0 w) : Calls Try.prog 51 #[.agg #[.func (.func K0) #[] C0, .func (.func K1) #[] C1, .func (.func K2) #[] C2, .func (.func K3) #[] C3]] w (FPost P Q) := by
  have i0 : ∀ w, (Instr.index 74 (.agg #[.func (.func K0) #[] C0, .func (.func K1) #[] C1, .func (.func K2) #[] C2, .func (.func K3) #[] C3]) (.int .i64 0)).run Try.prog w = .ok (.func (.func K0) #[] C0) w := fun _ => by kernel_rfl
  have i1 : ∀ w, (Instr.index 74 (.agg #[.func (.func K0) #[] C0, .func (.func K1) #[] C1, .func (.func K2) #[] C2, .func (.func K3) #[] C3]) (.int .i64 1)).run Try.prog w = .ok (.func (.func K1) #[] C1) w := fun _ => by kernel_rfl
  have i2 : ∀ w, (Instr.index 74 (.agg #[.func (.func K0) #[] C0, .func (.func K1) #[] C1, .func (.func K2) #[] C2, .func (.func K3) #[] C3]) (.int .i64 2)).run Try.prog w = .ok (.func (.func K2) #[] C2) w := fun _ => by kernel_rfl
  have i3 : ∀ w, (Instr.index 74 (.agg #[.func (.func K0) #[] C0, .func (.func K1) #[] C1, .func (.func K2) #[] C2, .func (.func K3) #[] C3]) (.int .i64 3)).run Try.prog w = .ok (.func (.func K3) #[] C3) w := fun _ => by kernel_rfl
  have hw1 := Lib.hid (hA 0 w (.cells #[.func (.func K0) #[] C0, .func (.func K1) #[] C1, .func (.func K2) #[] C2, .func (.func K3) #[] C3] 74) hw)
  have H0 := Lib.hid h0
  have H1 := Lib.hid h1
  have H2 := Lib.hid h2
  have H3 := Lib.hid h3
  clear hA h0 h1 h2 h3 hw
  go_enter Try.func51, Try.ntmps51
  go_wp2_with fail
  go_loopw [7] (fun i wr => ∃ k : Nat, k ≤ 4 ∧ i = .int .i64 k ∧ Hid (P k wr)) (fun i _ => 4 - (intOf i).toNat)
  case atStart => exact ⟨0, by omega, rfl, hw1⟩
  case round =>
    clear hw1
    obtain ⟨k, hk, hi, h⟩ := hrel
    rcases (show k = 0 ∨ k = 1 ∨ k = 2 ∨ k = 3 ∨ k = 4 by omega) with rfl | rfl | rfl | rfl | rfl
    · obtain rfl : _ = Value.int .i64 0 := hi
      go_wp2_with fail
      refine (H0.out _ h.out).mono ?_
      rintro e W1 ⟨c, rfl, hc⟩
      by_cases hz : c = 0
      · have hz1 : (c != 0) = false := by simp [hz]
        have hP : Hid (P (0 + 1) W1) := Lib.hid (by rcases hc with ⟨_, h⟩ | ⟨h, _⟩; exact h; exact absurd hz h)
        clear hc hz
        go_wp2_with fail
        go_roundw
        case rel => exact ⟨0 + 1, by omega, rfl, hP⟩
        case measure => simp [intOf]
      · have hz1 : (c != 0) = true := by simpa using hz
        have hP : Hid (c ≠ 0 ∧ Q c W1) := Lib.hid (by rcases hc with ⟨h, _⟩ | h; exact absurd h hz; exact h)
        clear hc hz
        go_wp2
        go_ret
        exact ⟨c, rfl, .inr hP.out⟩
    · obtain rfl : _ = Value.int .i64 1 := hi
      go_wp2_with fail
      refine (H1.out _ h.out).mono ?_
      rintro e W1 ⟨c, rfl, hc⟩
      by_cases hz : c = 0
      · have hz1 : (c != 0) = false := by simp [hz]
        have hP : Hid (P (1 + 1) W1) := Lib.hid (by rcases hc with ⟨_, h⟩ | ⟨h, _⟩; exact h; exact absurd hz h)
        clear hc hz
        go_wp2_with fail
        go_roundw
        case rel => exact ⟨1 + 1, by omega, rfl, hP⟩
        case measure => simp [intOf]
      · have hz1 : (c != 0) = true := by simpa using hz
        have hP : Hid (c ≠ 0 ∧ Q c W1) := Lib.hid (by rcases hc with ⟨h, _⟩ | h; exact absurd h hz; exact h)
        clear hc hz
        go_wp2
        go_ret
        exact ⟨c, rfl, .inr hP.out⟩
    · obtain rfl : _ = Value.int .i64 2 := hi
      go_wp2_with fail
      refine (H2.out _ h.out).mono ?_
      rintro e W1 ⟨c, rfl, hc⟩
      by_cases hz : c = 0
      · have hz1 : (c != 0) = false := by simp [hz]
        have hP : Hid (P (2 + 1) W1) := Lib.hid (by rcases hc with ⟨_, h⟩ | ⟨h, _⟩; exact h; exact absurd hz h)
        clear hc hz
        go_wp2_with fail
        go_roundw
        case rel => exact ⟨2 + 1, by omega, rfl, hP⟩
        case measure => simp [intOf]
      · have hz1 : (c != 0) = true := by simpa using hz
        have hP : Hid (c ≠ 0 ∧ Q c W1) := Lib.hid (by rcases hc with ⟨h, _⟩ | h; exact absurd h hz; exact h)
        clear hc hz
        go_wp2
        go_ret
        exact ⟨c, rfl, .inr hP.out⟩
    · obtain rfl : _ = Value.int .i64 3 := hi
      go_wp2_with fail
      refine (H3.out _ h.out).mono ?_
      rintro e W1 ⟨c, rfl, hc⟩
      by_cases hz : c = 0
      · have hz1 : (c != 0) = false := by simp [hz]
        have hP : Hid (P (3 + 1) W1) := Lib.hid (by rcases hc with ⟨_, h⟩ | ⟨h, _⟩; exact h; exact absurd hz h)
        clear hc hz
        go_wp2_with fail
        go_roundw
        case rel => exact ⟨3 + 1, by omega, rfl, hP⟩
        case measure => simp [intOf]
      · have hz1 : (c != 0) = true := by simpa using hz
        have hP : Hid (c ≠ 0 ∧ Q c W1) := Lib.hid (by rcases hc with ⟨h, _⟩ | h; exact absurd h hz; exact h)
        clear hc hz
        go_wp2
        go_ret
        exact ⟨c, rfl, .inr hP.out⟩
    · obtain rfl : _ = Value.int .i64 4 := hi
      go_wp2
      go_ret
      exact ⟨0, rfl, .inl ⟨rfl, h.out⟩⟩

/-- what is left to be found wrong, behind so many looks -/
def restE (s : Seg) : Nat → Int
  | 0 => schk s
  | 1 => if chk s.o ≠ 0 then chk s.o else if suitB s = false then 6 else if 2048 < s.body.length then 9 else 0
  | 2 => if suitB s = false then 6 else if 2048 < s.body.length then 9 else 0
  | 3 => if 2048 < s.body.length then 9 else 0
  | _ => 0
theorem restE1 (s : Seg) : schk s = if knownB s.kind = false then 8 else restE s 1 := rfl
theorem restE2 (s : Seg) : restE s 1 = if chk s.o ≠ 0 then chk s.o else restE s 2 := rfl
theorem restE3 (s : Seg) : restE s 2 = if suitB s = false then 6 else restE s 3 := rfl
theorem restE4 (s : Seg) : restE s 3 = if 2048 < s.body.length then 9 else 0 := rfl

set_option maxRecDepth 100000 in
set_option maxHeartbeats 1600000 in
theorem scheck_any (s : Seg) (a : Option Addr) (n cap : Nat) (b : Option Addr) (m bc : Nat) (w : World) (hf : s.Fit) (hl : BlA w a n cap s.o.bl) (hb : SlA .u8 w b m bc s.body) :
    Calls Try.prog 16 #[segV s a n cap b m bc] w (RetE (schk s) w) := by
  have M := sm_new w s a n cap b m bc hl hb
  have HF := Lib.hid (fun (W : World) (hM : SM w w.heap.size s a n cap b m bc W) => first_any 52 55 57 59 #[.pointer (some ⟨w.heap.size, 0, none⟩)] #[.pointer (some ⟨w.heap.size, 0, none⟩)] #[.pointer (some ⟨w.heap.size, 0, none⟩)] #[.pointer (some ⟨w.heap.size, 0, none⟩)]
    (fun k W => SM w w.heap.size s a n cap b m bc W ∧ schk s = restE s k) (fun c W => SM w w.heap.size s a n cap b m bc W ∧ schk s = c)
    (fun k W o h => ⟨h.1.later (bal o), h.2⟩) (fun _ => by kernel_rfl) (fun _ => by kernel_rfl) (fun _ => by kernel_rfl) (fun _ => by kernel_rfl)
    (fun W h => (look1 h.1).mono fun e W' ⟨he, hb⟩ => ⟨_, he, by
      have h2 := h.2
      rw [restE1] at h2 ⊢
      by_cases hk : knownB s.kind = false
      · right
        rw [if_pos hk, if_pos hk]
        exact ⟨by omega, h.1.later hb, rfl⟩
      · left
        rw [if_neg hk, if_neg hk]
        exact ⟨rfl, h.1.later hb, rfl⟩⟩)
    (fun W h => (look2 h.1 hf).mono fun e W' ⟨he, hb⟩ => ⟨_, he, by
      have h2 := h.2
      rw [restE2] at h2
      by_cases hk : chk s.o ≠ 0
      · right
        rw [if_pos hk] at h2
        exact ⟨hk, h.1.later hb, h2⟩
      · left
        rw [if_neg hk] at h2
        exact ⟨by simpa using hk, h.1.later hb, h2⟩⟩)
    (fun W h => (look3 h.1).mono fun e W' ⟨he, hb⟩ => ⟨_, he, by
      have h2 := h.2
      rw [restE3] at h2
      by_cases hk : suitB s = false
      · right
        rw [if_pos hk] at h2 ⊢
        exact ⟨by omega, h.1.later hb, h2⟩
      · left
        rw [if_neg hk] at h2 ⊢
        exact ⟨rfl, h.1.later hb, h2⟩⟩)
    (fun W h => (look4 h.1).mono fun e W' ⟨he, hb⟩ => ⟨_, he, by
      have h2 := h.2
      rw [restE4] at h2
      by_cases hk : 2048 < s.body.length
      · right
        rw [if_pos hk] at h2 ⊢
        exact ⟨by omega, h.1.later hb, h2⟩
      · left
        rw [if_neg hk] at h2 ⊢
        exact ⟨rfl, h.1.later hb, h2⟩⟩)
    W ⟨hM, rfl⟩)
  go_enter Try.func16, Try.ntmps16
  go_wp2_with fail
  refine (HF.out _ M).mono ?_
  rintro e W' ⟨c, rfl, hc⟩
  have hc' : Hid (schk s = c ∧ Below w.heap.size w W') := Lib.hid (by
    rcases hc with ⟨rfl, h, h2⟩ | ⟨_, h, h2⟩
    · exact ⟨h2, h.below⟩
    · exact ⟨h2, h.below⟩)
  clear hc M
  go_wp2
  go_ret
  exact ⟨ret_i hc'.out.1.symm, hc'.out.2⟩
end Go.Proofs.Ytdfenlagokndkaa.sg
