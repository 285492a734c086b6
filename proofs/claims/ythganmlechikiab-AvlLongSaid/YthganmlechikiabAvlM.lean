/-
  Layer 8's law: keys in a row.
-/
import Derived.Test.YthganmlechikiabAvlL
namespace Go.Proofs.Ythganmlechikiab.av
open Go.RowKit aid mem
attribute [local go_sem ↓] Go.wp_at_zero Go.wp_at_succ
set_option linter.unusedVariables false

theorem ins_top {t : T} {k v : Int} (hu : T.Up t.toL) (h : ∀ x ∈ t.toL, x.1 < k) : (T.ins k v t).toL = t.toL ++ [(k, v)] := by
  rw [T.ins_toL k v t hu]; unfold T.putL; rw [(T.lo_all h).1, (T.lo_all h).2]
theorem ins_bot {t : T} {k v : Int} (hu : T.Up t.toL) (h : ∀ x ∈ t.toL, k < x.1) : (T.ins k v t).toL = (k, v) :: t.toL := by
  rw [T.ins_toL k v t hu]; unfold T.putL; rw [(T.hi_all h).1, (T.hi_all h).2]; rfl
/-- a tree of keys in a row, so far -/
structure Row (down : Bool) (s : Int) (k : Nat) (t : T) : Prop where
  up : T.Up t.toL
  bal : T.Bal t
  size : t.size = k
  keys : ∀ x ∈ t.toL, if down then -s * (k : Int) < x.1 else x.1 < s * (k : Int)
theorem row_nil (down : Bool) (s : Int) : Row down s 0 .nil := ⟨List.Pairwise.nil, trivial, rfl, fun x hx => by cases hx⟩
theorem Row.down {s : Int} {k : Nat} {t : T} (h : Row true s k t) (hs : 0 < s) (v : Int) : Row true s (k + 1) (T.ins (-s * (k : Int)) v t) := by
  have hk := h.keys
  simp only [if_true] at hk
  have e := ins_bot (v := v) h.up hk
  refine ⟨ins_up _ _ h.up, (T.ins_Bal _ _ h.bal).1, ?_, fun x hx => ?_⟩
  · rw [← T.size_toL, e, List.length_cons, T.size_toL, h.size]
  · simp only [if_true]
    have e2 : -s * ((k + 1 : Nat) : Int) = -s * (k : Int) - s := by rw [Int.natCast_add, Int.mul_add]; simp; omega
    rw [e] at hx
    rw [e2]
    rcases List.mem_cons.1 hx with rfl | hx
    · simp only; omega
    · have := hk x hx; omega
theorem Row.rise {s : Int} {k : Nat} {t : T} (h : Row false s k t) (hs : 0 < s) (v : Int) : Row false s (k + 1) (T.ins (s * (k : Int)) v t) := by
  have hk := h.keys
  simp only [Bool.false_eq_true, if_false] at hk
  have e := ins_top (v := v) h.up hk
  refine ⟨ins_up _ _ h.up, (T.ins_Bal _ _ h.bal).1, ?_, fun x hx => ?_⟩
  · rw [← T.size_toL, e, List.length_append, T.size_toL, h.size]; rfl
  · simp only [Bool.false_eq_true, if_false]
    have e2 : s * ((k + 1 : Nat) : Int) = s * (k : Int) + s := by rw [Int.natCast_add, Int.mul_add]; simp
    rw [e] at hx
    rw [e2]
    rcases List.mem_append.1 hx with hx | hx
    · have := hk x hx; omega
    · rw [List.mem_singleton] at hx; subst hx; simp only; omega
theorem mul_bd {s : Int} {k : Nat} (h0 : 0 < s) (h1 : s ≤ 256) (hk : k < 3000) : 0 ≤ s * (k : Int) ∧ s * (k : Int) ≤ 768000 := by
  constructor
  · exact Int.mul_nonneg (by omega) (by omega)
  · exact Int.le_trans (Int.mul_le_mul_of_nonneg_right h1 (by omega)) (by omega)

set_option maxRecDepth 100000 in
set_option maxHeartbeats 4000000 in
theorem walk_AvlLong (w : World) (a0 : Int) (b0 : 0 ≤ a0 ∧ a0 ≤ 65535) (down : Bool) (a2 : Int) (b2 : 0 ≤ a2 ∧ a2 ≤ 255) :
    Calls Try.prog 6 #[.int .u16 a0, .bool down, .int .u8 a2] w fun e w' => e = .returned (.bool true) ∧ Below w.heap.size w w' := by
  obtain ⟨b00, b01⟩ := b0
  obtain ⟨b20, b21⟩ := b2
  have hs0 : 0 < 1 + a2 := by omega
  have hs1 : 1 + a2 ≤ 256 := by omega
  have hn0 : 0 ≤ a0 % 3000 := by omega
  have hn1 : a0 % 3000 < 3000 := by omega
  cases down with
  | true =>
    go_enter Try.func6, Try.ntmps6
    go_wp2_with (first
      | (go_at_call 8; (with_reducible refine (known_any _).mono ?_); rintro e w1 ⟨rfl, hB1⟩)
      | (go_at_call 9; (with_reducible refine (new_ts hB1).mono ?_); rintro e w2 ⟨b, rfl, S2, q1, q2⟩; clear q1 q2))
    obtain ⟨n, hn⟩ : ∃ n : Nat, (n : Int) = a0 % 3000 := ⟨(a0 % 3000).toNat, by omega⟩
    have hn3 : n < 3000 := by omega
    rw [← hn]
    clear hn hn0 hn1
    generalize 1 + a2 = s at *
    go_loopw [10] (fun i wr => ∃ (k : Nat) (t : T), i = .int .i64 k ∧ k ≤ n ∧ Hid (Row true s k t) ∧ TS w wr b t) (fun i _ => n - (intOf i).toNat)
    case atStart => exact ⟨0, .nil, rfl, Nat.zero_le _, Lib.hid (row_nil true s), S2⟩
    case round =>
      clear S2 hB1
      obtain ⟨k, t, rfl, hkn, HR, S⟩ := hrel
      obtain ⟨wo, rfl⟩ : ∃ wo : World, wo = wr := ⟨_, rfl⟩
      have hsz := HR.out.size
      by_cases hlt : k < n
      · have hm : -768000 ≤ -s * (k : Int) ∧ -s * (k : Int) ≤ 0 := by have := mul_bd hs0 hs1 (k := k) (by omega); rw [Int.neg_mul]; omega
        obtain ⟨hm1, hm2⟩ := hm
        have HP := Lib.hid (put_ts (-s * (k : Int)) (k : Int) S (by omega))
        have HN := Lib.hid (HR.out.down hs0 (k : Int))
        go_wp2_with (first
          | (go_at_call 16; (with_reducible refine HP.out.mono ?_); rintro e w3 ⟨rfl, S3, q1⟩; clear q1; generalize T.ins (-s * (k : Int)) (k : Int) t = t3 at *))
        go_roundw
        case rel => exact ⟨k + 1, t3, by go_num, by omega, HN, S3⟩
        case measure => simp [intOf]; omega
      · obtain rfl : k = n := by omega
        have hh := T.ht_bd HR.out.bal (by omega)
        have hf := T.least_le HR.out.bal
        have hBo := S.below
        have hd : decide (T.least t.ht ≤ k) = true := decide_eq_true (by omega)
        have hd2 : ((t.size : Int) == (k : Int)) = true := by simp; omega
        go_wp2_with (first
          | (go_at_call 27; (with_reducible refine (height_any S.tree.o).mono ?_); rintro e w4 ⟨rfl, rfl⟩)
          | (go_at_call 12; (with_reducible refine (tlen_any S.tree.o).mono ?_); rintro e w4 ⟨rfl, rfl⟩)
          | (go_at_call 28; (with_reducible refine (least_any _ hh _).mono ?_); rintro e w4 ⟨rfl, rfl⟩)
          | (go_at_call 8; (with_reducible refine (known_any _).mono ?_); rintro e w1 ⟨rfl, hB1⟩))
        go_ret
        exact ⟨rfl, hBo.trans (hB1.mono hBo.size)⟩
  | false =>
    go_enter Try.func6, Try.ntmps6
    go_wp2_with (first
      | (go_at_call 8; (with_reducible refine (known_any _).mono ?_); rintro e w1 ⟨rfl, hB1⟩)
      | (go_at_call 9; (with_reducible refine (new_ts hB1).mono ?_); rintro e w2 ⟨b, rfl, S2, q1, q2⟩; clear q1 q2))
    obtain ⟨n, hn⟩ : ∃ n : Nat, (n : Int) = a0 % 3000 := ⟨(a0 % 3000).toNat, by omega⟩
    have hn3 : n < 3000 := by omega
    rw [← hn]
    clear hn hn0 hn1
    generalize 1 + a2 = s at *
    go_loopw [10] (fun i wr => ∃ (k : Nat) (t : T), i = .int .i64 k ∧ k ≤ n ∧ Hid (Row false s k t) ∧ TS w wr b t) (fun i _ => n - (intOf i).toNat)
    case atStart => exact ⟨0, .nil, rfl, Nat.zero_le _, Lib.hid (row_nil false s), S2⟩
    case round =>
      clear S2 hB1
      obtain ⟨k, t, rfl, hkn, HR, S⟩ := hrel
      obtain ⟨wo, rfl⟩ : ∃ wo : World, wo = wr := ⟨_, rfl⟩
      have hsz := HR.out.size
      by_cases hlt : k < n
      · have hm := mul_bd hs0 hs1 (k := k) (by omega)
        obtain ⟨hm1, hm2⟩ := hm
        have HP := Lib.hid (put_ts (s * (k : Int)) (k : Int) S (by omega))
        have HN := Lib.hid (HR.out.rise hs0 (k : Int))
        go_wp2_with (first
          | (go_at_call 16; (with_reducible refine HP.out.mono ?_); rintro e w3 ⟨rfl, S3, q1⟩; clear q1; generalize T.ins (s * (k : Int)) (k : Int) t = t3 at *))
        go_roundw
        case rel => exact ⟨k + 1, t3, by go_num, by omega, HN, S3⟩
        case measure => simp [intOf]; omega
      · obtain rfl : k = n := by omega
        have hh := T.ht_bd HR.out.bal (by omega)
        have hf := T.least_le HR.out.bal
        have hBo := S.below
        have hd : decide (T.least t.ht ≤ k) = true := decide_eq_true (by omega)
        have hd2 : ((t.size : Int) == (k : Int)) = true := by simp; omega
        go_wp2_with (first
          | (go_at_call 27; (with_reducible refine (height_any S.tree.o).mono ?_); rintro e w4 ⟨rfl, rfl⟩)
          | (go_at_call 12; (with_reducible refine (tlen_any S.tree.o).mono ?_); rintro e w4 ⟨rfl, rfl⟩)
          | (go_at_call 28; (with_reducible refine (least_any _ hh _).mono ?_); rintro e w4 ⟨rfl, rfl⟩)
          | (go_at_call 8; (with_reducible refine (known_any _).mono ?_); rintro e w1 ⟨rfl, hB1⟩))
        go_ret
        exact ⟨rfl, hBo.trans (hB1.mono hBo.size)⟩
end Go.Proofs.Ythganmlechikiab.av
