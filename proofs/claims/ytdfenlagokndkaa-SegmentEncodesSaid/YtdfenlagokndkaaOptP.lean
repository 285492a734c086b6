/-
  Package option: the other parts; all of them.
-/
import Derived.Test.YtdfenlagokndkaaOptW
namespace Go.Proofs.Ytdfenlagokndkaa.op
open Go.RowKit aid mem oc
set_option linter.unusedVariables false

section
variable {w0 : World} {n0 B p : Nat} {o : Opt} {a : Option Addr} {n cap : Nat} {l : List Int} {w : World}

set_option maxHeartbeats 800000 in
theorem parts2 (h : Ws w0 n0 B p o a n cap l w) (hr : l.length ≤ 200) :
    Calls Try.prog 110 #[.pointer (some ⟨p, 0, none⟩), .pointer (some ⟨B, 0, none⟩)] w fun e w' => e = .returned (.tuple #[]) ∧ Ws w0 n0 B p o a n cap (l ++ p2 o) w' := by
  have c1 := h.box.c1
  cases hm : o.permit with
  | false =>
    rw [hm] at c1
    have e : p2 o = [] := by simp [p2, hm]
    rw [e, List.append_nil]
    clear hm e
    go_enter Try.func110, Try.ntmps110
    go_wp2
    go_end0
    exact ⟨rfl, h⟩
  | true =>
    rw [hm] at c1
    have e : Hid (p2 o = [4, 2]) := Lib.hid (by simp [p2, hm])
    clear hm
    go_enter Try.func110, Try.ntmps110
    go_wp2_with fail
    refine (ws_new h [4, 2] 2 rfl _ rfl 5 (by simp; omega) _ rfl).mono ?_
    rintro e w1 ⟨rfl, h1⟩
    go_wp2_with fail
    go_end0
    exact ⟨rfl, by rw [e.out]; exact h1⟩

set_option maxHeartbeats 800000 in
theorem parts3 (h : Ws w0 n0 B p o a n cap l w) (hf : o.Fit) (hr : l.length ≤ 200) :
    Calls Try.prog 111 #[.pointer (some ⟨p, 0, none⟩), .pointer (some ⟨B, 0, none⟩)] w fun e w' => e = .returned (.tuple #[]) ∧ Ws w0 n0 B p o a n cap (l ++ p3 o) w' := by
  have c2 := h.box.c2
  have hv := hf.val
  have he := hf.ecr
  cases hm : o.ts with
  | false =>
    rw [hm] at c2
    have e : p3 o = [] := by simp [p3, hm]
    rw [e, List.append_nil]
    clear hm e
    go_enter Try.func111, Try.ntmps111
    go_wp2
    go_end0
    exact ⟨rfl, h⟩
  | true =>
    rw [hm] at c2
    have e : Hid (p3 o = [8, 10] ++ four o.val ++ four o.ecr) := Lib.hid (by simp [p3, hm])
    clear hm
    go_enter Try.func111, Try.ntmps111
    go_wp2_with fail
    refine (ws_new h [8, 10] 2 rfl _ rfl 5 (by simp; omega) _ rfl).mono ?_
    rintro e w1 ⟨rfl, h1⟩
    have c3 := h1.box.c3
    go_wp2_with fail
    refine (ws_four h1 o.val hv (by simp; omega)).mono ?_
    rintro e w2 ⟨rfl, h2⟩
    have c4 := h2.box.c4
    go_wp2_with fail
    refine (ws_four h2 o.ecr he (by simp [four]; omega)).mono ?_
    rintro e w3 ⟨rfl, h3⟩
    go_wp2_with fail
    go_end0
    exact ⟨rfl, by rw [e.out, ← List.append_assoc, ← List.append_assoc]; exact h3⟩

set_option maxHeartbeats 800000 in
theorem parts4 (h : Ws w0 n0 B p o a n cap l w) (hr : l.length ≤ 200) :
    Calls Try.prog 112 #[.pointer (some ⟨p, 0, none⟩), .pointer (some ⟨B, 0, none⟩)] w fun e w' => e = .returned (.tuple #[]) ∧ Ws w0 n0 B p o a n cap (l ++ p4 o) w' := by
  have c5 := h.box.c5
  have c6 := h.box.c6
  cases hm : o.hs with
  | false =>
    rw [hm] at c5
    have e : p4 o = [] := by simp [p4, hm]
    rw [e, List.append_nil]
    clear hm e
    go_enter Try.func112, Try.ntmps112
    go_wp2
    go_end0
    exact ⟨rfl, h⟩
  | true =>
    rw [hm] at c5
    have e : Hid (p4 o = [3, 3, o.scale % 256]) := Lib.hid (by simp [p4, hm])
    have hw := IntKind.wrap_u8 o.scale
    clear hm
    go_enter Try.func112, Try.ntmps112
    go_wp2_with fail
    refine (ws_new h [3, 3, o.scale % 256] 3 rfl _ rfl 5 (by simp; omega) _ rfl).mono ?_
    rintro e w1 ⟨rfl, h1⟩
    go_wp2_with fail
    go_end0
    exact ⟨rfl, by rw [e.out]; exact h1⟩

theorem wr_lt {w : World} {p : Nat} {S : List Nat} {l : List Int} (h : Wr w p S l) : ∀ k ∈ S, k < w.heap.size := by
  intro k hk
  rcases h.rest with ⟨_, _, hS⟩ | ⟨sb, v, h0, hs, hf, hown, hne, hg, hS⟩
  · rw [hS] at hk; cases hk
  · rw [hS] at hk
    rcases List.mem_cons.1 hk with rfl | hk
    · exact World.block_lt_of_cell? w _ hs
    · exact (hown.lt k (Option.mem_toList.1 hk)).2
theorem ws_four_box (h : Ws w0 n0 B p o a n cap l w) (x y : Int) (hb : 0 ≤ x ∧ x ≤ 4294967295) (hr : l.length ≤ 1000) (t : TypeId) :
    Calls Try.prog 77 #[.pointer (some ⟨p, 0, none⟩), .int .u32 x] (w.alloc (.cells #[.int .u32 x, .int .u32 y] t)) fun e w' => e = .returned (.tuple #[]) ∧ Ws w0 n0 B p o a n cap (l ++ four x) w' ∧ w'.cell? ⟨w.heap.size, 1, none⟩ = some (.int .u32 y) := by
  obtain ⟨S0, hw0, _⟩ := h.ex
  have h' := h.alloc (.cells #[.int .u32 x, .int .u32 y] t)
  obtain ⟨S, hw, hS⟩ := h.ex
  have hlt := wr_lt hw
  have hp := h.plt
  have hw' := hw.keep ((Kept.refl [] w).alloc (.cells #[.int .u32 x, .int .u32 y] t)) (by simp) (by simp)
  refine (four_any p S l x _ hw' hb (by omega)).mono fun e w' he => ?_
  have hk := he
  obtain ⟨_, S', _, hk2, _⟩ := hk
  obtain ⟨e1, e2⟩ := h'.wrote hS he
  refine ⟨e1, e2, hk2.cell (p := ⟨w.heap.size, 1, none⟩) ?_ (World.cell?_alloc_at _ _ _ _ rfl)⟩
  intro hm
  rcases List.mem_cons.1 hm with e | e
  · simp at e; omega
  · have := hlt _ e; simp at this

set_option maxHeartbeats 1600000 in
theorem parts5 (h : Ws w0 n0 B p o a n cap l w) (hf : o.Fit) (hn : n ≤ 4) (hr : l.length ≤ 200) :
    Calls Try.prog 113 #[.pointer (some ⟨p, 0, none⟩), .pointer (some ⟨B, 0, none⟩)] w fun e w' => e = .returned (.tuple #[]) ∧ Ws w0 n0 B p o a n cap (l ++ p5 o) w' := by
  have c7 := h.box.c7
  have hle := h.bl.le
  have hmost := h.bl.most
  have hlen := h.bl.len
  unfold maxLen at hmost
  by_cases hm : n = 0
  · subst hm
    have e : p5 o = [] := by simp [p5, hlen]
    rw [e, List.append_nil]
    clear e hlen
    go_enter Try.func113, Try.ntmps113
    go_wp2
    go_loopw [21] (fun i wr => i = .int .i64 0 ∧ Ws w0 n0 B p o a 0 cap l wr) (fun _ _ => 0)
    case atStart => exact ⟨rfl, h⟩
    case round =>
      obtain ⟨rfl, h'⟩ := hrel
      go_wp2
      go_end0
      exact ⟨rfl, h'⟩
  · have e : Hid (p5 o = [5, 2 + 8 * (n : Int)] ++ blB o.bl) := Lib.hid (by unfold p5; rw [if_neg (by omega), hlen])
    obtain ⟨b, off, rfl, hc⟩ := h.bl.cells (by omega)
    have hb := h.old ⟨b, off, none⟩ rfl (by omega)
    have hn0 : (0 : Int) < (n : Int) := by omega
    have hw : IntKind.u8.wrap (2 + (n : Int) * 8) = 2 + 8 * (n : Int) := by rw [IntKind.wrap_u8]; omega
    have HL := Lib.hid hlen
    have HF := Lib.hid hf.bl
    clear hc hlen
    go_enter Try.func113, Try.ntmps113
    go_wp2_with fail
    refine (ws_new h [5, 2 + 8 * (n : Int)] 2 rfl _ rfl 5 (by simp; omega) _ rfl).mono ?_
    rintro e w1 ⟨rfl, h1⟩
    have c7' := h1.box.c7
    go_wp2_with fail
    go_loopw [21] (fun i wr => ∃ k : Nat, k ≤ n ∧ i = .int .i64 k ∧ Ws w0 n0 B p o (some ⟨b, off, none⟩) n cap (l ++ [5, 2 + 8 * (n : Int)] ++ blB (o.bl.take k)) wr) (fun i _ => n - (intOf i).toNat)
    case atStart => exact ⟨0, Nat.zero_le _, rfl, by simpa [blB] using h1⟩
    case round =>
      obtain ⟨k, hk, rfl, h'⟩ := hrel
      clear c7 c7' h1 h
      by_cases hlt : k < n
      · obtain ⟨b', off', hbo, hc⟩ := h'.bl.cells (by omega)
        injection hbo with hbo
        injection hbo with hbo1 hbo2
        subst hbo1 hbo2
        obtain ⟨g1, g2⟩ := hc k hlt
        have hx : (0 ≤ (o.bl.getD k (0, 0)).1 ∧ (o.bl.getD k (0, 0)).1 ≤ 4294967295) ∧ (0 ≤ (o.bl.getD k (0, 0)).2 ∧ (o.bl.getD k (0, 0)).2 ≤ 4294967295) := by
          have : o.bl.getD k (0, 0) ∈ o.bl := by
            rw [show o.bl.getD k (0, 0) = o.bl[k]'(by rw [HL.out]; exact hlt) from by simp [List.getD, HL.out, hlt]]
            exact List.getElem_mem _
          exact HF.out _ this
        have HS : Hid (blB (o.bl.take (k + 1)) = blB (o.bl.take k) ++ four (o.bl.getD k (0, 0)).1 ++ four (o.bl.getD k (0, 0)).2) := Lib.hid (by
          rw [← blB_snoc]
          congr 1
          rw [List.take_succ_eq_append_getElem (by rw [HL.out]; exact hlt)]
          simp only [List.getD, List.getElem?_eq_getElem (show k < o.bl.length by rw [HL.out]; exact hlt), Option.getD_some])
        have hlb : (blB (o.bl.take k)).length ≤ 32 := by rw [blB_len, List.length_take]; omega
        have HB := Lib.hid hlb
        clear hc hlb
        generalize (o.bl.getD k (0, 0)).1 = x at *
        generalize (o.bl.getD k (0, 0)).2 = y at *
        have hk0 : (k : Int) < (n : Int) := by omega
        obtain ⟨wo, rfl⟩ : ∃ wo : World, wo = wr := ⟨_, rfl⟩
        go_wp2_with fail
        refine (ws_four_box h' x y hx.1 ?_ 99).mono ?_
        · have := HB.out; simp; omega
        rintro e w2 ⟨rfl, h2, hy2⟩
        go_wp2_with fail
        refine (ws_four h2 y hx.2 ?_).mono ?_
        · have := HB.out; simp [four]; omega
        rintro e w3 ⟨rfl, h3⟩
        go_wp2_with fail
        go_roundw
        case rel => exact ⟨k + 1, by omega, by go_num, by rw [HS.out, ← List.append_assoc, ← List.append_assoc]; exact h3⟩
        case measure => simp [intOf]; omega
      · go_wp2
        go_end0
        refine ⟨rfl, ?_⟩
        rw [List.take_of_length_le (by rw [HL.out]; omega)] at h'
        rw [e.out, ← List.append_assoc]
        exact h'
end
end Go.Proofs.Ytdfenlagokndkaa.op
