/-
  Package low: the binary search; Min.
-/
import Derived.Test.YtgonfdedapnlnaaLowB
import Derived.Shelf.Abstract
namespace Go.Proofs.Ytgonfdedapnlnaa.lo
open Go.RowKit aid mem
attribute [local go_sem ↓] Go.wp_at_zero Go.wp_at_succ
set_option linter.unusedVariables false

/-- where a search ends -/
structure Found (p : Nat → Bool) (n r : Nat) : Prop where
  le : r ≤ n
  lo : ∀ t, t < r → p t = false
  hi : ∀ t, r ≤ t → t < n → p t = true
set_option maxHeartbeats 2000000 in
theorem search_any {w : World} (g : Nat) (cb : Array Value) (n : Nat) (p : Nat → Bool) (eg : ∀ args w, (callFunc g args).run Try.prog w = .ok (.enter g args) w) (hn : n < 4611686018427387904)
    (hf : ∀ (W : World), Below w.heap.size w W → ∀ i : Nat, i < n → Calls Try.prog g (#[.int .i64 i] ++ cb) W fun e w' => e = .returned (.bool (p i)) ∧ Below W.heap.size W w')
    (hm : ∀ a b, a ≤ b → b < n → p a = true → p b = true) :
    Calls Try.prog 17 #[.int .i64 n, .func (.func g) #[] cb] w fun e w' => ∃ r : Nat, e = .returned (.int .i64 r) ∧ Found p n r ∧ Below w.heap.size w w' := by
  have HF := Lib.hid hf
  have HM := Lib.hid hm
  clear hf hm
  go_enter Try.func17, Try.ntmps17
  go_wp2
  go_loopw [5, 6] (fun s5 s6 wr => ∃ lo hi : Nat, s5 = .int .i64 lo ∧ s6 = .int .i64 hi ∧ lo ≤ hi ∧ hi ≤ n ∧ Below w.heap.size w wr ∧ Hid ((∀ t, t < lo → p t = false) ∧ (∀ t, hi ≤ t → t < n → p t = true))) (fun s5 s6 _ => (intOf s6).toNat - (intOf s5).toNat)
  case atStart => exact ⟨0, n, rfl, rfl, Nat.zero_le _, Nat.le_refl _, Below.refl _ _, Lib.hid ⟨fun t ht => by omega, fun t h1 h2 => by omega⟩⟩
  case round =>
    obtain ⟨lo, hi, rfl, rfl, hlh, hin, hb, HI⟩ := hrel
    by_cases hlt : lo < hi
    · have hc := HF.out wr hb ((lo + hi) / 2) (by omega)
      rw [show (((lo + hi) / 2 : Nat) : Int) = ((lo : Int) + (hi : Int)) / 2 by omega] at hc
      cases hp : p ((lo + hi) / 2) <;> rw [hp] at hc
      · have HP := Lib.hid hp
        clear hp
        go_wp2_with (go_at_fn g; refine hc.mono ?_; rintro e w' ⟨rfl, hb3⟩)
        go_roundw
        case measure => simp [intOf]; omega
        case rel => exact ⟨(lo + hi) / 2 + 1, hi, by rw [show ((lo : Int) + (hi : Int)) / 2 + 1 = (((lo + hi) / 2 + 1 : Nat) : Int) by omega], rfl, by omega, hin, hb.trans (hb3.mono hb.size), Lib.hid ⟨fun t ht => (by
            cases h : p t with
            | false => rfl
            | true => have := HM.out t ((lo + hi) / 2) (by omega) (by omega) h; rw [HP.out] at this; cases this), HI.out.2⟩⟩
      · have HP := Lib.hid hp
        clear hp
        go_wp2_with (go_at_fn g; refine hc.mono ?_; rintro e w' ⟨rfl, hb3⟩)
        go_roundw
        case measure => simp [intOf]; omega
        case rel => exact ⟨lo, (lo + hi) / 2, rfl, by rw [show ((lo : Int) + (hi : Int)) / 2 = (((lo + hi) / 2 : Nat) : Int) by omega], by omega, by omega, hb.trans (hb3.mono hb.size), Lib.hid ⟨HI.out.1, fun t ht htn => HM.out ((lo + hi) / 2) t ht htn HP.out⟩⟩
    · obtain rfl : hi = lo := by omega
      go_wp2
      go_ret
      exact ⟨hi, rfl, ⟨hin, HI.out.1, HI.out.2⟩, hb⟩
theorem eg_min : ∀ args w, (callFunc 18 args).run Try.prog w = .ok (.enter 18 args) w := enters_of Try.func18 (by kernel_rfl) rfl
set_option maxHeartbeats 1000000 in
theorem min1_any {W : World} {B X : Nat} {win last T : Int} {a : Option Addr} {n cap : Nat} {l : List Mk} (h : LwAt W B win last a n cap) (hk : Ks W a n cap l) (hok : ∀ x ∈ l, MOk last x) (hT : 0 ≤ T ∧ T ≤ 4611686018427387904)
    (b0 : W.cell? ⟨X, 0, none⟩ = some (.pointer (some ⟨B, 0, none⟩))) (b1 : W.cell? ⟨X + 1, 0, none⟩ = some (.int .i64 T)) (i : Nat) (hi : i < n) :
    Calls Try.prog 18 (#[.int .i64 i] ++ #[.pointer (some ⟨X, 0, none⟩), .pointer (some ⟨X + 1, 0, none⟩)]) W fun e w' => e = .returned (.bool (inW win T (l.getD i (0, 0)))) ∧ Below W.heap.size W w' := by
  have hlen := hk.len
  have hob := hok (l.getD i (0, 0)) (by rw [show l.getD i (0, 0) = l[i] from by simp [List.getD, show i < l.length by omega]]; exact List.getElem_mem _)
  obtain ⟨g, off, rfl, hc⟩ := hk.cells (by omega)
  obtain ⟨m0, m1⟩ := hc i hi
  have c2 := cofr h 2 _ rfl
  have hle := hk.row.le
  have hmost := hk.row.most
  unfold maxLen at hmost
  have HW := Lib.hid (fun W2 (hW : Below W.heap.size W W2) => within_any (LwAt.later h hW) (l.getD i (0, 0)) T ⟨hob.1, hob.2.2.1⟩ hT)
  clear hc hk hok hob h
  generalize l.getD i (0, 0) = m at *
  go_enter Try.func18, Try.ntmps18
  go_wp2_with fail
  go_region_held3 (fun w' => w'.cell? ⟨X, 0, none⟩ = some (.pointer (some ⟨B, 0, none⟩)) ∧ w'.cell? ⟨X + 1, 0, none⟩ = some (.int .i64 T) ∧ w'.cell? ⟨B, 2, none⟩ = some (.slice (some ⟨g, off, none⟩) n cap) ∧ w'.cell? ⟨g, off + i * 2, none⟩ = some (.int .i64 m.1) ∧ w'.cell? ⟨g, off + i * 2 + 1, none⟩ = some (.int .i64 m.2))
    (first | go_keep | exact ⟨cell_later hb1 b0, cell_later hb1 b1, cell_later hb1 c2, cell_later hb1 m0, cell_later hb1 m1⟩)
    ((go_at_call 19; (with_reducible refine (HW.out _ (Below.refl _ _).drew).mono ?_); rintro e w1 ⟨rfl, hb1⟩; replace hb1 := (Below.refl W.heap.size W).drew.trans hb1))
  go_wp2
  go_ret
  exact ⟨rfl, hb1⟩
/-- the least one, or that there is none -/
def minV (win T : Int) (l : List Mk) : Value := .tuple #[.int .i64 (max 0 (hdV (l.filter (inW win T)))), .bool (decide (0 ≤ hdV (l.filter (inW win T))))]
theorem found_filter {win T : Int} {l : List Mk} {n r : Nat} (hl : l.length = n) (h : Found (fun i => inW win T (l.getD i (0, 0))) n r) : l.filter (inW win T) = l.drop r :=
  first_filter _ l r (by rw [hl]; exact h.le) h.lo (fun i h1 h2 => h.hi i h1 (by omega))
set_option maxHeartbeats 2000000 in
theorem min_any {w : World} {B : Nat} {win last T : Int} {a : Option Addr} {n cap : Nat} {l : List Mk} (h : LwAt w B win last a n cap) (hk : Ks w a n cap l) (hok : ∀ x ∈ l, MOk last x) (hu : Up l) (hl0 : 0 ≤ last) (hT : last ≤ T ∧ T ≤ 4611686018427387904) (hn : n ≤ 1000000) :
    Calls Try.prog 11 #[.pointer (some ⟨B, 0, none⟩), .int .i64 T] w fun e w' => e = .returned (minV win T l) ∧ Below w.heap.size w w' := by
  have hlen := hk.len
  have hle := hk.row.le
  have hmost := hk.row.most
  unfold maxLen at hmost
  obtain ⟨W0, hW0⟩ : ∃ W0, W0 = (w.alloc (.cells #[.pointer (some ⟨B, 0, none⟩)] 24)).alloc (.cells #[.int .i64 T] 3) := ⟨_, rfl⟩
  have hb0 : Below w.heap.size w W0 := by rw [hW0]; exact ((Below.refl _ _).alloc (Nat.le_refl _) _).alloc (by simp) _
  have x0 : W0.heap[w.heap.size]? = some (.cells #[.pointer (some ⟨B, 0, none⟩)] 24 (0, 0)) := by rw [hW0]; exact heap_alloc2_old w _ _
  have x1 : W0.heap[w.heap.size + 1]? = some (.cells #[.int .i64 T] 3 (0, 0)) := by rw [hW0]; exact heap_alloc2_new w _ _
  have b0 := cofr x0 0 _ rfl; have b1 := cofr x1 0 _ rfl
  have hA := LwAt.later h hb0
  have hk0 := hk.later hb0
  have c1 := cofr hA 1 _ rfl; have c2 := cofr hA 2 _ rfl
  have HS := Lib.hid (fun W (hW : Below W0.heap.size W0 W) => search_any (w := W) 18 #[.pointer (some ⟨w.heap.size, 0, none⟩), .pointer (some ⟨w.heap.size + 1, 0, none⟩)] n (fun i => inW win T (l.getD i (0, 0))) eg_min (by omega)
    (fun W2 hW2 i hi => min1_any (LwAt.later hA (hW.trans (hW2.mono hW.size))) (hk0.later (hW.trans (hW2.mono hW.size))) hok ⟨by omega, hT.2⟩ (cell_later (hW.trans (hW2.mono hW.size)) b0) (cell_later (hW.trans (hW2.mono hW.size)) b1) i hi)
    (fun x y hxy hy hx => by
      by_cases he : x = y
      · subst he; exact hx
      · have := (hu.at (i := x) (j := y) (by omega) (by omega)).1
        unfold inW at *
        simp only [decide_eq_true_eq] at *
        omega))
  go_enter Try.func11, Try.ntmps11
  go_wp2_with fail
  rw [← hW0]
  have ht1 : ¬ T < last := by omega
  have ht2 : ¬ 4611686018427387904 < T := by omega
  have HF := Lib.hid (fun r (hr : Found (fun i => inW win T (l.getD i (0, 0))) n r) => found_filter hlen hr)
  have HV := Lib.hid (show minV win T l = .tuple #[.int .i64 (max 0 (hdV (l.filter (inW win T)))), .bool (decide (0 ≤ hdV (l.filter (inW win T))))] from rfl)
  have HO := Lib.hid (fun i (hi : i < n) => show MOk last (l.getD i (0, 0)) from hok _ (by rw [show l.getD i (0, 0) = l[i] from by simp [List.getD, show i < l.length by omega]]; exact List.getElem_mem _))
  have HDN := Lib.hid (show l.drop n = [] from List.drop_eq_nil_of_le (by omega))
  have HDR := Lib.hid (fun r (h : r < n) => drop_hd (l := l) (r := r) (by omega))
  have HC := Lib.hid (fun h0 => hk0.cells h0)
  clear hok hu h hk hk0 hlen
  clear hW0 x0 x1
  go_quiet (fail)
  go_wp2_with fail
  refine (HS.out _ (below_drewN (Below.refl _ _) _)).mono ?_
  rintro e w3 ⟨r, rfl, hfr, hb3⟩
  have hbel := (below_drewN (Below.refl W0.heap.size W0) nq).trans hb3
  have c2' := cell_later hbel c2
  have b0' := cell_later hbel b0
  have HB := Lib.hid (hb0.trans (hbel.mono hb0.size))
  have hrn := hfr.le
  have e1 := HF.out r hfr
  have e2 := HV.out
  rw [e1] at e2
  by_cases hr : r = n
  · subst hr
    rw [HDN.out] at e2
    have HE := Lib.hid e2
    clear e1 e2 hfr HS hb3 hbel c2 b0 b1 c1
    go_wp2_with fail
    go_ret2
    exact ⟨by rw [HE.out]; rfl, HB.out⟩
  · have hlt : r < n := by omega
    obtain ⟨g, off, rfl, hc⟩ := HC.out (by omega)
    obtain ⟨_, m1⟩ := hc r hlt
    have m1' := cell_later hbel m1
    rw [HDR.out r hlt] at e2
    have ho := HO.out r hlt
    generalize l.getD r (0, 0) = m at *
    have HE := Lib.hid e2
    have HM := Lib.hid (show (0 : Int) ≤ m.2 from ho.2.2.2.1)
    clear e1 e2 hfr HS hb3 hbel c2 b0 b1 c1 hc m1 ho
    go_wp2_with fail
    go_ret2
    exact ⟨by rw [HE.out, Int.max_eq_right HM.out, decide_eq_true HM.out]; rfl, HB.out⟩
end Go.Proofs.Ytgonfdedapnlnaa.lo
