/-
  The reference of layer 12.
-/
import Derived.Test.YtgonfdedapnlnaaLowC
namespace Go.Proofs.Ytgonfdedapnlnaa.lo
open Go.RowKit aid mem
attribute [local go_sem ↓] Go.wp_at_zero Go.wp_at_succ
set_option linter.unusedVariables false

/-- marks lie where the slice leads -/
structure Ma (w : World) (a : Option Addr) (n cap : Nat) (l : List Mk) : Prop where
  len : l.length = n
  le : n ≤ cap
  most : cap ≤ maxLen
  cells : 0 < n → ∃ g off, a = some ⟨g, off, none⟩ ∧ ∀ i, i < n → w.cell? ⟨g, off + i * 2, none⟩ = some (.int .i64 (l.getD i (0, 0)).1) ∧ w.cell? ⟨g, off + i * 2 + 1, none⟩ = some (.int .i64 (l.getD i (0, 0)).2)
theorem Ma.later {w w' : World} {a : Option Addr} {n cap : Nat} {l : List Mk} (h : Ma w a n cap l) (hb : Below w.heap.size w w') : Ma w' a n cap l :=
  ⟨h.len, h.le, h.most, fun h0 => by
    obtain ⟨g, off, rfl, hc⟩ := h.cells h0
    exact ⟨g, off, rfl, fun i hi => ⟨cell_later hb (hc i hi).1, cell_later hb (hc i hi).2⟩⟩⟩
theorem getD_mem {l : List Mk} {i : Nat} (h : i < l.length) : l.getD i (0, 0) ∈ l := by
  rw [show l.getD i (0, 0) = l[i] from by simp [List.getD, h]]; exact List.getElem_mem _
theorem take_succ_getD {l : List Mk} {i : Nat} (h : i < l.length) : l.take (i + 1) = l.take i ++ [l.getD i (0, 0)] := by
  rw [List.take_succ_eq_append_getElem h, show l.getD i (0, 0) = l[i] from by simp [List.getD, h]]
theorem drop_getD {l : List Mk} {i : Nat} (h : i < l.length) : l.drop i = l.getD i (0, 0) :: l.drop (i + 1) := by
  rw [List.drop_eq_getElem_cons h, show l.getD i (0, 0) = l[i] from by simp [List.getD, h]]
theorem mn_bd (w T : Int) (last : Int) : ∀ (l : List Mk), (∀ x ∈ l, MOk last x) → -1 ≤ mn w T l ∧ mn w T l ≤ 4611686018427387904 := by
  intro l
  unfold mn
  suffices h : ∀ (l : List Mk) (b : Int), -1 ≤ b ∧ b ≤ 4611686018427387904 → (∀ x ∈ l, MOk last x) → -1 ≤ l.foldl (mnStep w T) b ∧ l.foldl (mnStep w T) b ≤ 4611686018427387904 from h l (-1) (by omega)
  intro l
  induction l with
  | nil => intro b hb _; exact hb
  | cons x t ih =>
    intro b hb h
    rw [List.foldl_cons]
    refine ih _ ?_ (fun y hy => h y (by simp [hy]))
    have hx := h x (by simp)
    unfold mnStep
    split
    · exact ⟨by have := hx.2.2.2.1; omega, hx.2.2.2.2⟩
    · exact hb
set_option maxHeartbeats 2000000 in
theorem rmin_any {w : World} {a : Option Addr} {n cap : Nat} {l : List Mk} (h : Ma w a n cap l) {last : Int} (hok : ∀ x ∈ l, MOk last x) (win T : Int) (hw : 1 ≤ win ∧ win ≤ 4611686018427387904) (hT : 0 ≤ T ∧ T ≤ 4611686018427387904) :
    Calls Try.prog 12 #[.slice a n cap, .int .i64 win, .int .i64 T] w fun e w' => e = .returned (.int .i64 (mn win T l)) ∧ w = w' := by
  have hle := h.le
  have hmost := h.most
  unfold maxLen at hmost
  have HC := Lib.hid h.cells
  have HLEN := Lib.hid h.len
  have HOK := Lib.hid hok
  clear h hok
  obtain ⟨hT0, hT1⟩ := hT
  go_enter Try.func12, Try.ntmps12
  go_wp2
  go_loop [7, 8] (fun b i => ∃ k : Nat, i = .int .i64 k ∧ k ≤ n ∧ b = .int .i64 (mn win T (l.take k))) (fun _ i => n - (intOf i).toNat)
  case atStart => exact ⟨0, rfl, Nat.zero_le _, rfl⟩
  case round =>
    obtain ⟨k, rfl, hk, rfl⟩ := hrel
    by_cases hlt : k < n
    · obtain ⟨g, off, rfl, hc⟩ := HC.out (by omega)
      obtain ⟨c0, c1⟩ := hc k hlt
      have hs : mn win T (l.take (k + 1)) = mnStep win T (mn win T (l.take k)) (l.getD k (0, 0)) := by rw [take_succ_getD (by rw [HLEN.out]; exact hlt), mn_snoc]
      have hb := mn_bd win T last (l.take k) (fun x hx => HOK.out x (List.mem_of_mem_take hx))
      have hm := HOK.out _ (getD_mem (l := l) (i := k) (by rw [HLEN.out]; exact hlt))
      have HS := Lib.hid hs
      clear hc hs
      generalize l.getD k (0, 0) = m at *
      generalize mn win T (l.take k) = b at *
      obtain ⟨m1, m2⟩ := m
      obtain ⟨h1, _, h3, h4, h5⟩ := hm
      dsimp only at *
      by_cases hi : T - m1 < win
      · by_cases hb0 : b < 0
        · go_wp2
          go_round
          case rel => exact ⟨k + 1, by go_num, by omega, by rw [HS.out]; unfold mnStep; rw [if_pos ⟨hi, .inl hb0⟩]⟩
          case measure => simp [intOf]; omega
        · by_cases hv : m2 < b
          · go_wp2
            go_round
            case rel => exact ⟨k + 1, by go_num, by omega, by rw [HS.out]; unfold mnStep; rw [if_pos ⟨hi, .inr hv⟩]⟩
            case measure => simp [intOf]; omega
          · go_wp2
            go_round
            case rel => exact ⟨k + 1, by go_num, by omega, by rw [HS.out]; unfold mnStep; rw [if_neg (by simp only; omega)]⟩
            case measure => simp [intOf]; omega
      · go_wp2
        go_round
        case rel => exact ⟨k + 1, by go_num, by omega, by rw [HS.out]; unfold mnStep; rw [if_neg (by simp only; omega)]⟩
        case measure => simp [intOf]; omega
    · obtain rfl : k = n := by omega
      go_wp2
      go_ret
      exact ⟨ret_ii (by rw [List.take_of_length_le (by rw [HLEN.out]; exact Nat.le_refl _)]), rfl⟩

/-- whether all of those that were looked at are greater -/
def bb (win T : Int) (l : List Mk) (i k : Nat) : Bool := inW win T (l.getD i (0, 0)) && ((l.take k).drop (i + 1)).all (fun y => decide ((l.getD i (0, 0)).2 < y.2))
theorem bb_zero (win T : Int) (l : List Mk) (i : Nat) : bb win T l i (i + 1) = inW win T (l.getD i (0, 0)) := by
  unfold bb
  rw [List.drop_eq_nil_of_le (by rw [List.length_take]; omega)]
  simp
theorem bb_succ (win T : Int) {l : List Mk} {i k : Nat} (hik : i + 1 ≤ k) (hk : k < l.length) : bb win T l i (k + 1) = (bb win T l i k && decide ((l.getD i (0, 0)).2 < (l.getD k (0, 0)).2)) := by
  unfold bb
  rw [take_succ_getD hk, List.drop_append_of_le_length (by rw [List.length_take]; omega), List.all_append, Bool.and_assoc]
  simp
theorem bb_all (win T : Int) {l : List Mk} {i : Nat} (hi : i < l.length) : cn win T (fun _ => true) (l.drop i) = (if bb win T l i l.length then 1 else 0) + cn win T (fun _ => true) (l.drop (i + 1)) := by
  rw [drop_getD hi]
  simp only [cn]
  unfold bb
  rw [List.take_length]
  simp only [Bool.and_true]
set_option maxHeartbeats 4000000 in
theorem rlen_any {w : World} {a : Option Addr} {n cap : Nat} {l : List Mk} (h : Ma w a n cap l) {last : Int} (hok : ∀ x ∈ l, MOk last x) (win T : Int) (hw : 1 ≤ win ∧ win ≤ 4611686018427387904) (hT : 0 ≤ T ∧ T ≤ 4611686018427387904) :
    Calls Try.prog 14 #[.slice a n cap, .int .i64 win, .int .i64 T] w fun e w' => e = .returned (.int .i64 (cn win T (fun _ => true) l)) ∧ Below w.heap.size w w' := by
  have hle := h.le
  have hmost := h.most
  unfold maxLen at hmost
  have HC := Lib.hid h.cells
  have HLEN := Lib.hid h.len
  have HOK := Lib.hid hok
  clear h hok
  obtain ⟨hT0, hT1⟩ := hT
  go_enter Try.func14, Try.ntmps14
  go_wp2
  go_loopw [7, 8] (fun c i wr => ∃ k q : Nat, i = .int .i64 k ∧ k ≤ n ∧ c = .int .i64 q ∧ q ≤ k ∧ Hid (q + cn win T (fun _ => true) (l.drop k) = cn win T (fun _ => true) l) ∧ Below w.heap.size w wr) (fun _ i _ => n - (intOf i).toNat)
  case atStart => exact ⟨0, 0, rfl, Nat.zero_le _, rfl, Nat.le_refl _, Lib.hid (by simp), Below.refl _ _⟩
  case round =>
    obtain ⟨k, q, rfl, hk, rfl, hq, HQ, hbel⟩ := hrel
    by_cases hlt : k < n
    · obtain ⟨g, off, rfl, hc⟩ := HC.out (by omega)
      have c0 := cell_later hbel (hc k hlt).1
      have hm := HOK.out _ (getD_mem (l := l) (i := k) (by rw [HLEN.out]; exact hlt))
      have HM1 := Lib.hid (fun W (hb : Below w.heap.size w W) => cell_later hb (hc k hlt).2)
      have HCC := Lib.hid hc
      have HZ := Lib.hid (bb_zero win T l k)
      have HI := Lib.hid (show inW win T (l.getD k (0, 0)) = decide (T - (l.getD k (0, 0)).1 < win) from rfl)
      have HSU := Lib.hid (fun j (h1 : k + 1 ≤ j) (h2 : j < n) => bb_succ win T (l := l) (i := k) (k := j) h1 (by rw [HLEN.out]; exact h2))
      have HAL := Lib.hid (bb_all win T (l := l) (i := k) (by rw [HLEN.out]; exact hlt))
      rw [HLEN.out] at HAL
      clear hc
      generalize l.getD k (0, 0) = m at *
      obtain ⟨m1, m2⟩ := m
      obtain ⟨h1, _, h3, h4, h5⟩ := hm
      dsimp only at *
      go_wp2
      go_loopw [9, 10] (fun b i wr => ∃ j : Nat, i = .int .i64 j ∧ k + 1 ≤ j ∧ j ≤ n ∧ b = .bool (bb win T l k j) ∧ Below w.heap.size w wr) (fun _ i _ => n - (intOf i).toNat)
      case atStart => exact ⟨k + 1, by go_num, Nat.le_refl _, by omega, by rw [HZ.out, HI.out], hbel⟩
      case round =>
        obtain ⟨j, rfl, hj1, hj2, rfl, hbel2⟩ := hrel
        clear c0
        by_cases hjn : j < n
        · have c1 := HM1.out _ hbel2
          have d1 := cell_later hbel2 (HCC.out j hjn).2
          have HS := Lib.hid (HSU.out j hj1 hjn)
          generalize bb win T l k j = bj at *
          generalize l.getD j (0, 0) = y at *
          obtain ⟨y1, y2⟩ := y
          dsimp only at *
          cases bj with
          | false =>
            go_wp2_with fail
            go_quiet (fail)
            go_wp2_with fail
            go_roundw
            case rel => exact ⟨j + 1, by go_num, by omega, by omega, by rw [HS.out]; rfl, below_drewN hbel2 _⟩
            case measure => simp [intOf]; omega
          | true =>
            go_wp2_with fail
            go_quiet (fail)
            go_wp2_with fail
            go_roundw
            case rel => exact ⟨j + 1, by go_num, by omega, by omega, by rw [HS.out]; simp, below_drewN hbel2 _⟩
            case measure => simp [intOf]; omega
        · obtain rfl : j = n := by omega
          generalize bb win T l k j = bj at *
          cases bj with
          | false =>
            go_wp2_with fail
            go_roundw
            case rel => exact ⟨k + 1, q, by go_num, by omega, rfl, by omega, Lib.hid (by have h1 := HQ.out; rw [HAL.out] at h1; simpa using h1), hbel2⟩
            case measure => simp [intOf]; omega
          | true =>
            go_wp2_with fail
            go_roundw
            case rel => exact ⟨k + 1, q + 1, by go_num, by omega, by go_num, by omega, Lib.hid (by have h1 := HQ.out; rw [HAL.out] at h1; simp at h1; omega), hbel2⟩
            case measure => simp [intOf]; omega
    · obtain rfl : k = n := by omega
      go_wp2
      go_ret
      exact ⟨ret_ii (by have h1 := HQ.out; rw [List.drop_eq_nil_of_le (by rw [HLEN.out]; exact Nat.le_refl _)] at h1; simp only [cn] at h1; omega), hbel⟩
end Go.Proofs.Ytgonfdedapnlnaa.lo
