/-
  Several texts in one: DctS DctD DctE DctF DctG DctT DctK OctW OctX Ref2 DctL Open DctO
-/
import Derived.Deep.LoopGhost
import Derived.Deep.RegionLaw
import Derived.Lib.SlicesDelete
import Derived.Test.YtahegkbdefhlpaaProg
import Derived.Deep.Slices
import Derived.ProofKit
import Derived.OpenShut
import Derived.Test.YtahegkbdefhlpaaM1
/-!   Package duct: the library's search in rising numbers; what it takes out of a row.
-/
namespace Go.Proofs.Ytahegkbdefhlpaa.dc
open Go.RowKit Go.Maps aid mem
attribute [local go_sem ↓] Go.wp_at_zero Go.wp_at_succ
set_option linter.unusedVariables false
set_option linter.unusedSimpArgs false

theorem cnan_q (x : Int) (w : World) : Calls Try.prog 43 #[.int .i64 x] w fun e w' => e = .returned (.bool false) ∧ w = w' := by
  go_enter Try.func43, Try.ntmps43
  go_wp2
  go_ret
  exact ⟨by simp, rfl⟩
theorem snan_q (x : Int) (w : World) : Calls Try.prog 42 #[.int .i64 x] w fun e w' => e = .returned (.bool false) ∧ w = w' := by
  go_enter Try.func42, Try.ntmps42
  go_wp2
  go_ret
  exact ⟨by simp, rfl⟩
theorem less_q (x y : Int) (w : World) : Calls Try.prog 41 #[.int .i64 x, .int .i64 y] w fun e w' => e = .returned (.bool (decide (x < y))) ∧ w = w' := by
  go_enter Try.func41, Try.ntmps41
  go_wp2_with (go_at_call 43; (with_reducible refine (cnan_q _ _).mono ?_); rintro e w1 ⟨rfl, rfl⟩)
  go_ret
  exact ⟨rfl, rfl⟩
set_option maxRecDepth 100000 in
set_option maxHeartbeats 4000000 in
/-- a number that is there is found at its place -/
theorem bsearch_q {w : World} {g off n c : Nat} {L : List Nat} (hn : n = L.length) (hbig : n < 4611686018427387904) (hc : ∀ j (h : j < L.length), w.cell? ⟨g, off + j, none⟩ = some (.int .i64 (L[j] : Int))) (hs : L.Pairwise (· < ·)) (p : Nat) (hp : p < L.length) :
    Q 39 #[.slice (some ⟨g, off, none⟩) n c, .int .i64 (L[p] : Int)] (.tuple #[.int .i64 (p : Nat), .bool true]) w := by
  intro m
  have HC := Lib.hid (fun q j (h : j < L.length) => show (w.drewN q).cell? ⟨g, off + j, none⟩ = some (.int .i64 (L[j] : Int)) from hc j h)
  have S : Hid (∀ a b (ha : a < b) (hb : b < L.length), L[a] < L[b]) := Lib.hid (fun a b ha hb => List.pairwise_iff_getElem.1 hs a b (by omega) hb ha)
  have HP : Hid (L[p] = L[p]) := Lib.hid rfl
  obtain ⟨t, ht⟩ : ∃ t : Int, t = (L[p] : Int) := ⟨_, rfl⟩
  have HT := Lib.hid ht
  rw [← ht]
  have hn1 : n ≤ L.length := by omega
  have hn2 : L.length ≤ n := by omega
  clear hs hc ht HP hn
  go_enter Try.func39, Try.ntmps39
  go_wp2
  go_loopg [7, 8] n (fun g s7 s8 wr => ∃ lo hi q : Nat, s7 = .int .i64 lo ∧ s8 = .int .i64 hi ∧ lo ≤ p ∧ p ≤ hi ∧ hi ≤ n ∧ hi - lo ≤ g ∧ wr = w.drewN q)
  case atStart => exact ⟨0, n, m, rfl, rfl, Nat.zero_le _, by omega, Nat.le_refl _, by omega, rfl⟩
  case round =>
    obtain ⟨lo, hi, q, rfl, rfl, hlp, hph, hin, hg, rfl⟩ := hrel
    by_cases hlt : lo < hi
    · have hm : (lo + hi) / 2 < L.length := by omega
      have cm := HC.out q ((lo + hi) / 2) hm
      by_cases hyx : (lo + hi) / 2 < p
      · have HY : ((L[(lo + hi) / 2] : Nat) : Int) < t := by have := S.out _ _ hyx hp; rw [HT.out]; omega
        generalize ((L[(lo + hi) / 2] : Nat) : Int) = y at cm HY
        go_wp2_with (first | (go_at_call 41; (with_reducible refine (less_q _ _ _).mono ?_); rintro e w' ⟨rfl, rfl⟩) | (go_at_call 42; (with_reducible refine (snan_q _ _).mono ?_); rintro e w' ⟨rfl, rfl⟩))
        go_roundg (hi - ((lo + hi) / 2 + 1))
        case measure => omega
        case rel =>
          exact ⟨(lo + hi) / 2 + 1, hi, _, by rw [show ((lo : Int) + (hi : Int)) / 2 + 1 = (((lo + hi) / 2 + 1 : Nat) : Int) by omega], rfl, by omega, hph, hin, Nat.le_refl _, rfl⟩
      · have HY : ¬ ((L[(lo + hi) / 2] : Nat) : Int) < t := by
          rw [HT.out]
          by_cases e : p = (lo + hi) / 2
          · subst e; omega
          · have := S.out p ((lo + hi) / 2) (by omega) hm; omega
        generalize ((L[(lo + hi) / 2] : Nat) : Int) = y at cm HY
        go_wp2_with (first | (go_at_call 41; (with_reducible refine (less_q _ _ _).mono ?_); rintro e w' ⟨rfl, rfl⟩) | (go_at_call 42; (with_reducible refine (snan_q _ _).mono ?_); rintro e w' ⟨rfl, rfl⟩))
        go_roundg ((lo + hi) / 2 - lo)
        case measure => omega
        case rel =>
          exact ⟨lo, (lo + hi) / 2, _, rfl, by rw [show ((lo : Int) + (hi : Int)) / 2 = (((lo + hi) / 2 : Nat) : Int) by omega], hlp, by omega, by omega, Nat.le_refl _, rfl⟩
    · have : hi = lo := by omega
      subst this
      have : p = hi := by omega
      subst this
      have hpn : p < n := by omega
      have cl := HC.out q p hp
      rw [← HT.out] at cl
      go_wp2_with (first | (go_at_call 41; (with_reducible refine (less_q _ _ _).mono ?_); rintro e w' ⟨rfl, rfl⟩) | (go_at_call 42; (with_reducible refine (snan_q _ _).mono ?_); rintro e w' ⟨rfl, rfl⟩))
      go_ret2
      refine ⟨?_, _, rfl⟩
      simp
theorem ints_len (k : IntKind) (l : List Int) : (ints k l).length = l.length := by simp [ints]
theorem ints_take (k : IntKind) (l : List Int) (n : Nat) : (ints k l).take n = ints k (l.take n) := by simp [ints, List.map_take]
theorem ints_drop (k : IntKind) (l : List Int) (n : Nat) : (ints k l).drop n = ints k (l.drop n) := by simp [ints, List.map_drop]
theorem zero1 : (Builtin.zeroCells (Value.cells (.int .i64 0)) 1).toList = [.int .i64 0] := by kernel_rfl
/-- what came out of a row -/
def DelP (g off n cap : Nat) (L : List Int) (w : World) (e : Ending) (w' : World) : Prop := e = .returned (.slice (some ⟨g, off, none⟩) n cap) ∧ SlR w' 3 1 (some ⟨g, off, none⟩) n cap (ints .i64 L) ∧ Kept [g] w w'
set_option maxRecDepth 100000 in
set_option maxHeartbeats 4000000 in
theorem delete_any {w : World} {g off n cap k j : Nat} {L : List Int} {P R : List Value} (h : SlP w 3 1 g off n cap (ints .i64 L) P R) (hk : k < n) (hj : j = k + 1) :
    Calls Try.prog 40 #[.slice (some ⟨g, off, none⟩) n cap, .int .i64 (k : Nat), .int .i64 (j : Nat)] w (DelP g off (n - 1) cap (L.take k ++ L.drop j) w) := by
  obtain ⟨i0, hi, hz0, hz1, hz2⟩ := info_split info_int
  have hle := h.le
  have hmost := h.most
  unfold maxLen at hmost
  have hlen : L.length = n := by have := h.len; rw [ints_len] at this; omega
  obtain ⟨B, hB⟩ : ∃ B, B = ((ints .i64 L).drop k).take (n - j) := ⟨_, rfl⟩
  obtain ⟨Z, hZ⟩ : ∃ Z, Z = ((ints .i64 L).drop k).drop (n - j) := ⟨_, rfl⟩
  have hBl : B.length = (n - j) * 1 := by rw [hB, List.length_take, List.length_drop, ints_len]; omega
  have hZl : Z.length = 1 := by rw [hZ, List.length_drop, List.length_drop, ints_len]; omega
  have hcut : P ++ ints .i64 L ++ R = (P ++ ints .i64 (L.take k)) ++ B ++ (Z ++ R) := by
    have e1 : ints .i64 L = (ints .i64 L).take k ++ (B ++ Z) := by rw [hB, hZ, List.take_append_drop, List.take_append_drop]
    rw [ints_take] at e1
    conv => lhs; rw [e1]
    simp [List.append_assoc]
  have hg := h.heap
  rw [hcut] at hg
  obtain ⟨A, hA, hsrc⟩ : ∃ A : Addr, (if cap = j then some (⟨g, off, none⟩ : Addr) else some ⟨g, off + j, none⟩) = some A ∧ Hid (Src Try.prog 1 62 (.slice (some A) (n - j) (cap - j)) (n - j) (ints .i64 (L.drop j)) w.drew) := by
    have hs := h.slr
    by_cases c : cap = j
    · refine ⟨⟨g, off, none⟩, by simp [c], Lib.hid ?_⟩
      have e0 : n - j = 0 := by omega
      have e1 : cap - j = 0 := by omega
      have e2 : L.drop j = [] := List.drop_eq_nil_of_le (by omega)
      rw [e0, e1, e2]
      exact (SlR.sub0 (w := w.drew) (e := 3) (sz := 1) (some ⟨g, off, none⟩)).src Try.underlying62 (by simp)
    · refine ⟨⟨g, off + j, none⟩, by simp [c], Lib.hid ?_⟩
      have h2 := (hs.later (Below.refl _ _).drew).sub j n cap (by omega) (Nat.le_refl _) hle (Nat.le_refl _) (by omega)
      rw [Nat.mul_one, Nat.mul_one, List.take_of_length_le (by rw [ints_len]; omega), ints_drop] at h2
      exact h2.src Try.underlying62 (ints_one _ _)
  have HG := Lib.hid (show w.drew.heap[g]? = some (.cells ((P ++ ints .i64 (L.take k)) ++ B ++ (Z ++ R)).toArray 3 (0, 0)) from hg)
  have HA : Hid ((P ++ ints .i64 (L.take k)).length = off + k * 1) := Lib.hid (by rw [List.length_append, ints_len, List.length_take, h.p]; omega)
  have HB := Lib.hid hBl
  have HE := Lib.hid (fun W (hW : W.heap[g]? = some (.cells ((P ++ ints .i64 (L.take k)) ++ ints .i64 (L.drop j) ++ (Z ++ R)).toArray 3 (0, 0))) (hk : Kept [g] w W) =>
    show (∀ ty cp, (Builtin.clear_ #[62] ty #[.slice (some ⟨g, off + (k + (n - j)), none⟩) (n - (k + (n - j))) cp]).run Try.prog W = .ok (.tuple #[]) (W.setRow g ((P ++ ints .i64 (L.take k)) ++ ints .i64 (L.drop j) ++ [Value.int .i64 0] ++ R).toArray)) ∧
      DelP g off (n - 1) cap (L.take k ++ L.drop j) w (.returned (.slice (some ⟨g, off, none⟩) (k + (n - j)) cap)) (W.setRow g ((P ++ ints .i64 (L.take k)) ++ ints .i64 (L.drop j) ++ [Value.int .i64 0] ++ R).toArray) from by
    have e1 : n - (k + (n - j)) = 1 := by omega
    have e2 : k + (n - j) = n - 1 := by omega
    have hW2 : W.heap[g]? = some (.cells (((P ++ ints .i64 (L.take k)) ++ ints .i64 (L.drop j)) ++ Z ++ R).toArray 3 (0, 0)) := by rw [hW]; simp [List.append_assoc]
    refine ⟨fun ty cp => ?_, ?_⟩
    · rw [e1]
      have := run_clear_p (P := Try.prog) W 62 ty 3 i0 (.int .i64 0) Try.underlying62 hi hz0 g (off + (k + (n - j))) cp 1 (by omega) ((P ++ ints .i64 (L.take k)) ++ ints .i64 (L.drop j)) Z R hW2 (by rw [List.length_append, HA.out, ints_len, List.length_drop]; omega) (by rw [zero1]; exact hZl) (by rw [zero1]; intro u hu; simp at hu; subst hu; rfl)
      rw [zero1] at this
      exact this
    · rw [e2]
      refine ⟨rfl, SlP.slr (P := P) (R := [.int .i64 0] ++ R) ⟨?_, h.p, by rw [ints_len, List.length_append, List.length_take, List.length_drop]; omega, by omega, h.most, ?_⟩, hk.trans (kept_setRow W g _) (fun x hx => .inl hx)⟩
      · rw [setRow_heap W g _ _ _ _ hW]
        rw [ints_append]
        simp [List.append_assoc]
      · have := h.room
        simp only [List.length_append, ints_len, List.length_take, List.length_drop, List.length_cons, List.length_nil] at *
        omega)
  have hic : k ≤ cap := by omega
  have hjc : j ≤ cap := by omega
  have hij : k < j := by omega
  have hjn : j ≤ n := by omega
  have hne : ¬ (k : Int) = (j : Int) := by omega
  have hroom : k + (n - j) ≤ cap := by omega
  have hr2 : k + (n - j) ≤ n := by omega
  clear h hg hcut hB hZ hBl hZl hlen hj
  go_enter Try.func40, Try.ntmps40
  go_wp2_with fail
  go_region_law (refine step_append_q _ rfl (.tmp 22) (.tmp 25) 62 62 rfl 3 i0 1 Try.underlying62 hi hz1 g off k cap (P ++ ints .i64 (L.take k)) B (Z ++ R) (by simp [Act.eval, Act.put]) HG.out HA.out _ (by simp [Act.eval, Act.put]) (n - j) (ints .i64 (L.drop j)) hsrc.out HB.out hroom ?_; intro w3 hw3 hk3)
  obtain ⟨hcl, hfin⟩ := HE.out w3 hw3.out ((Kept.refl [g] w).drew.trans hk3 (fun x hx => .inl hx))
  generalize w3.setRow g _ = w4 at hcl hfin
  have HF := Lib.hid hfin
  clear hfin
  go_wp2
  go_ret
  exact HF.out
end Go.Proofs.Ytahegkbdefhlpaa.dc
/-!   Package duct: send.
-/
namespace Go.Proofs.Ytahegkbdefhlpaa.dc
open Go.RowKit Go.Maps aid mem
attribute [local go_sem ↓] Go.wp_at_zero Go.wp_at_succ
set_option linter.unusedVariables false
set_option linter.unusedSimpArgs false

/-- behind a call that changes it -/
def RetS (v : Value) (B : Nat) (h : Hm) (x' : Dk) (w : World) (e : Ending) (w' : World) : Prop := e = .returned v ∧ ∃ h', DAt w' B h' x' ∧ Kept (blks B h) w w' ∧ ∀ b ∈ blks B h', b ∈ blks B h ∨ w.heap.size ≤ b
theorem DAt.fin {w w' : World} {B : Nat} {h : Hm} {x : Dk} (H : DAt w B h x) (hb : Below w.heap.size w w') (v : Value) : RetS v B h x w (.returned v) w' := ⟨rfl, h, H.later hb, Kept.of_below hb (Nat.le_refl _) _, fun b hb => .inl hb⟩
theorem tbl_yes {h : Hm} {x : Dk} {i : Int} (q : isF x i) : tbl h x i = some (rvV h x i.toNat) := if_pos q
theorem tbl_no {h : Hm} {x : Dk} {i : Int} (q : ¬ isF x i) : tbl h x i = none := if_neg q
theorem tbl_put (h : Hm) (x : Dk) (c : Cp) (hc : c.k = 0) (now : Int) (a : Option Addr) (cap : Nat) (fa oa : Option Addr) (fc oc : Nat) (i : Int) :
    (if i = ((x.l.length : Nat) : Int) then some (Value.slice a c.raw.length cap) else tbl h x i) = tbl ⟨fa, fc, oa, oc, h.m, fun j => if j = x.l.length then (a, cap) else h.rv j⟩ ⟨now, x.l ++ [c]⟩ i := by
  obtain ⟨h', hh⟩ : ∃ h', h' = (⟨fa, fc, oa, oc, h.m, fun j => if j = x.l.length then (a, cap) else h.rv j⟩ : Hm) := ⟨_, rfl⟩
  rw [← hh]
  have hm : ∀ j, j ∈ fly (x.l ++ [c]) ↔ j ∈ fly x.l ∨ j = x.l.length := fun j => by rw [fly_put _ _ hc]; simp
  have hrv : ∀ j, h'.rv j = if j = x.l.length then (a, cap) else h.rv j := fun j => by rw [hh]
  by_cases e : i = (x.l.length : Int)
  · have q : isF (⟨now, x.l ++ [c]⟩ : Dk) i := ⟨by omega, (hm _).2 (.inr (by omega))⟩
    rw [if_pos e, tbl_yes q]
    unfold rvV
    rw [hrv, if_pos (by omega)]
    dsimp only
    rw [show i.toNat = x.l.length by omega, cpAt_new]
  · rw [if_neg e]
    by_cases q : isF x i
    · have hlt := (mem_fly.1 q.2).1
      have q2 : isF (⟨now, x.l ++ [c]⟩ : Dk) i := ⟨q.1, (hm _).2 (.inl q.2)⟩
      rw [tbl_yes q, tbl_yes q2]
      unfold rvV
      rw [hrv, if_neg (by omega)]
      dsimp only
      rw [cpAt_lt hlt]
    · have q2 : ¬ isF (⟨now, x.l ++ [c]⟩ : Dk) i := by
        rintro ⟨q1, q2⟩
        rcases (hm _).1 q2 with q2 | q2
        · exact q ⟨q1, q2⟩
        · omega
      rw [tbl_no q, tbl_no q2]
theorem run_map_nil (w : World) (b : Nat) : (binOp .eql 60 (.map (some b)) (.map none)).run Try.prog w = .ok (.bool false) w := run_eql_map_nil_sl (P := Try.prog) w 60 _ _ (some b) Try.underlying60
theorem int_src (w : World) (n : Int) : Src Try.prog 1 62 (.slice (some ⟨w.heap.size, 0, none⟩) 1 1) 1 [.int .i64 n] (w.alloc (.cells #[.int .i64 n] 3)) := by
  refine Src.ofSlice (P := Try.prog) (size := 1) _ Try.underlying62 ⟨w.heap.size, 0, none⟩ 1 1 _ (by simp) ?_ (by intro u hu; simp at hu; subst hu; rfl)
  intro j u hu
  have hj : j = 0 := by
    have := (List.getElem?_eq_some_iff.1 hu).1
    simp at this; omega
  subst hj
  exact (cofr (heap_alloc_new w (.cells #[.int .i64 n] 3)) 0 _ rfl).trans hu
theorem fate_src (w : World) (c : Cp) : Src Try.prog 4 61 (.slice (some ⟨w.heap.size, 0, none⟩) 1 1) 1 (ftc c) (w.alloc (.cells #[.int .i64 c.f, .int .i64 c.a, .int .i64 c.e, .int .i64 c.k] 41)) := by
  refine Src.ofSlice (P := Try.prog) (size := 4) _ Try.underlying61 ⟨w.heap.size, 0, none⟩ 1 1 _ rfl ?_ (by intro u hu; simp [ftc] at hu; rcases hu with rfl | rfl | rfl | rfl <;> rfl)
  intro j u hu
  have e : Addr.add ⟨w.heap.size, 0, none⟩ j = ⟨w.heap.size, j, none⟩ := by cases j <;> simp [Addr.add]
  rw [e]
  exact cofr (heap_alloc_new w (.cells #[.int .i64 c.f, .int .i64 c.a, .int .i64 c.e, .int .i64 c.k] 41)) j u (by simpa [ftc] using hu)
set_option maxRecDepth 100000 in
set_option maxHeartbeats 4000000 in
theorem send_any {w : World} {B : Nat} {h : Hm} {x : Dk} (H : DAt w B h x) (hn : x.l.length ≤ 1000000) (c : Cp) (hc : c.k = 0) (a : Option Addr) (cap : Nat) (hr : BRow w a c.raw.length cap c.raw) (now : Int) :
    Calls Try.prog 31 #[.pointer (some ⟨B, 0, none⟩), .slice a c.raw.length cap, .agg #[.int .i64 c.f, .int .i64 c.a, .int .i64 c.e, .int .i64 c.k], .int .i64 now] w (RetS (.tuple #[.int .i64 (sendN x), .int .i64 (sendE x)]) B h (sendX x c now) w) := by
  have HCK := Lib.hid hc
  clear hc
  have hb := bal (w := w) (.cells #[.int .i64 c.f, .int .i64 c.a, .int .i64 c.e, .int .i64 c.k] 41)
  have hx := heap_alloc_new w (.cells #[.int .i64 c.f, .int .i64 c.a, .int .i64 c.e, .int .i64 c.k] 41)
  have HL := Lib.hid (len_q (H.later hb))
  have HT := Lib.hid (total_q (H.later hb))
  rcases sendE_or x with ⟨e1, e2⟩ | ⟨e1, e2⟩
  case inr =>
    have HX : Hid (sendN x = 0 ∧ sendX x c now = x) := Lib.hid ⟨by unfold sendN; rw [if_neg (by rw [e1]; simp)], by unfold sendX; rw [if_neg (by rw [e1]; simp)]⟩
    rw [HX.out.1, HX.out.2, e1]
    have HF := Lib.hid (fun q => H.fin (bdn hb q) (.tuple #[.int .i64 0, .int .i64 4]))
    clear H hb hx e1
    go_enter Try.func31, Try.ntmps31
    go_wp2_with (go_at_call 17; go_must (with_reducible refine HL.out.at.mono ?_); rintro e w1 ⟨rfl, q, rfl⟩)
    go_ret2
    exact HF.out q
  case inl =>
    have HX : Hid (sendN x = (x.l.length : Nat) ∧ sendX x c now = ⟨now, x.l ++ [c]⟩) := Lib.hid ⟨by unfold sendN; rw [if_pos e1], by unfold sendX; rw [if_pos e1]⟩
    rw [HX.out.1, HX.out.2, e1]
    have HRW := Lib.hid (fun i (hi : i ∈ fly x.l) => And.intro (H.raws i hi) (fun b hb => (H.rawT hi b hb).2))
    obtain ⟨⟨n, D, d, hnx, hf⟩, hraws⟩ := H
    have HBR := Lib.hid (And.intro hr (fun b (hb : b ∈ blk a cap) => show b ∉ blks B h from by
      obtain ⟨q, cs, hcc⟩ := hr.lt b hb
      obtain ⟨t1, t2, t3, t4, t5, t6⟩ := nts
      exact d.typ hcc t3.symm t5.symm t6.symm))
    have hlt := d.lt
    have hlen4 : ¬ 4096 ≤ (fly x.l).length := by omega
    have hkey := key_ok ((x.l.length : Nat) : Int) (by omega)
    have HD := Lib.hid (fun q => show DM ((w.alloc (.cells #[.int .i64 c.f, .int .i64 c.a, .int .i64 c.e, .int .i64 c.k] 41)).drewN q) B x.now h.fa x.l.length h.fc (ftC x.l) h.oa (fly x.l).length h.oc (ints .i64 (nms (fly x.l))) h.m n D from (d.later hb).later ⟨rfl, rfl, rfl, Nat.le_refl _, fun _ _ => rfl⟩)
    have HXX := Lib.hid (fun q => show ((w.alloc (.cells #[.int .i64 c.f, .int .i64 c.a, .int .i64 c.e, .int .i64 c.k] 41)).drewN q).heap[w.heap.size]? = some (.cells #[.int .i64 c.f, .int .i64 c.a, .int .i64 c.e, .int .i64 c.k] 41 (0, 0)) from hx)
    have HBB := Lib.hid (fun q => bdn hb q)
    have hq := run_map_nil
    have HFL := Lib.hid (fly_len x.l)
    clear d hraws hb hx e1
    obtain ⟨i0, hi, hz0, hz1, hz2⟩ := info_split info_int
    obtain ⟨j0, hj, hy0, hy1, hy2⟩ := info_split info_fate
    go_enter Try.func31, Try.ntmps31
    go_upto_region 6 with (first
      | (go_at_call 17; (with_reducible refine HL.out.at.mono ?_); rintro e w1 ⟨rfl, q, rfl⟩)
      | (go_at_call 18; (with_reducible refine (HT.out.nth _).mono ?_); rintro e w2 ⟨rfl, q2, rfl⟩; have d := HD.out q2; have hx := HXX.out q2; have hb := HBB.out q2; have c2 := d.cel.1 2 _ rfl))
    clear HL HT HD HXX HBB
    generalize (w.alloc (.cells #[.int .i64 c.f, .int .i64 c.a, .int .i64 c.e, .int .i64 c.k] 41)).drewN q2 = W1 at *
    have hmap := d.map
    have hM : IsMap D := d.map.isMap
    have hfp := hf.put hM ((x.l.length : Nat) : Int) (.slice a c.raw.length cap)
    have HFP := Lib.hid hfp
    clear hfp
    have hbm : w.heap.size ≠ h.m := by have := hlt h.m (by simp); omega
    go_upto_region 7 with (at_mapUpdate; go_must (refine wpList_mapUpdate_own _ rfl _ _ _ 60 rfl 3 23 keyed Try.underlying60 RV h.m n D rfl hmap (by unfold maxLen; omega) _ _ (kl ((x.l.length : Nat) : Int)) rfl rfl hkey (.held (.slice a c.raw.length cap)) [] rfl ?_); intro w3 hm3 hg3)
    obtain ⟨d3, k3⟩ := d.mapped hm3 hg3
    have hx3 := k3.heap (by simpa using hbm) hx
    have kw : Kept (blks B h) w w3 := (Kept.of_below hb (Nat.le_refl _) (blks B h)).trans k3 (fun x hx => .inl (by simp at hx; simp [hx]))
    clear c2 d hm3 hg3 k3 hx hmap hM hb hf hkey hq
    have hb4 := bal (w := w3) (.cells #[.int .i64 ((x.l.length : Nat) : Int)] 3)
    have d4 := d3.later hb4
    have c3 := d3.cel.1 3 _ rfl
    have c4 := d4.cel.1 3 _ rfl
    have HR := Lib.hid d4.order
    have HS := Lib.hid (int_src w3 ((x.l.length : Nat) : Int))
    have HO := Lib.hid (fun (wq : World) (a' : Option Addr) (cap' : Nat) (hr : SlR wq 3 1 a' ((fly x.l).length + 1) cap' (ints .i64 (nms (fly x.l)) ++ [.int .i64 ((x.l.length : Nat) : Int)])) (hk : Kept (blk h.oa h.oc) (w3.alloc (.cells #[.int .i64 ((x.l.length : Nat) : Int)] 3)) wq) (hb : ∀ b ∈ blk a' cap', b ∈ blk h.oa h.oc ∨ (w3.alloc (.cells #[.int .i64 ((x.l.length : Nat) : Int)] 3)).heap.size ≤ b) => d4.ordered hk hr hb)
    have hle1 := d4.order.le
    have hmo1 := d4.order.most
    unfold maxLen at hmo1
    clear d4
    go_upto_region 8 with (at_builtin; go_must (refine wpList_append_slr _ rfl (.tmp 35) (.tmp 37) 62 62 rfl 3 i0 (.int .i64 0) 1 8 Try.underlying62 hi hz0 hz1 (by decide) hz2 rfl h.oa (fly x.l).length h.oc (ints .i64 (nms (fly x.l))) rfl HR.out _ rfl 1 (by decide) [.int .i64 ((x.l.length : Nat) : Int)] HS.out (by unfold maxLen; omega) (by omega) ?_); intro a' cap' wq hr5 hk5 hb5; obtain ⟨hfin5, c5, f5⟩ := HO.out wq a' cap' hr5 hk5 hb5; have HF5 := Lib.hid hfin5; clear hfin5)
    clear c3 c4 c5 f5 HR HS HO hb4 hr5 hk5 hb5 d3
    generalize hW5 : wq.setCell ⟨B, 3, none⟩ (.slice a' ((fly x.l).length + 1) cap') = W5 at *
    clear hW5
    obtain ⟨d5, k5, b5⟩ := HF5.out
    have hsz3 : w.heap.size ≤ w3.heap.size := kw.size
    have hnb : w.heap.size ∉ blks B h := fun e => by have := hlt _ e; omega
    have hx5 := k5.heap hnb ((Below.heap_alloc w3 _ _ (lt_of_block hx3)).trans hx3)
    have kw5 : Kept (blks B h) w W5 := (kw.trans ((Kept.of_below (bal (w := w3) (.cells #[.int .i64 ((x.l.length : Nat) : Int)] 3)) (Nat.le_refl _) (blks B h))) (fun x hx => .inl hx)).trans k5 (fun x hx => .inl hx)
    have b5w : ∀ b ∈ blk a' cap', b ∈ blk h.oa h.oc ∨ w.heap.size ≤ b := fun b hb => (b5 b hb).imp id (fun e => by simp at e; omega)
    clear HF5 hx3 kw k5 b5
    have d6 := d5.later (Below.refl _ _).drew
    have hb6 := bal (w := W5.drew) (.cells #[.int .i64 c.f, .int .i64 c.a, .int .i64 c.e, .int .i64 c.k] 41)
    have d7 := d6.later hb6
    have e0 : W5.drew.cell? ⟨w.heap.size, 0, none⟩ = some (.int .i64 c.f) := cofr hx5 0 _ rfl
    have e1 : W5.drew.cell? ⟨w.heap.size, 1, none⟩ = some (.int .i64 c.a) := cofr hx5 1 _ rfl
    have e2 : W5.drew.cell? ⟨w.heap.size, 2, none⟩ = some (.int .i64 c.e) := cofr hx5 2 _ rfl
    have e3 : W5.drew.cell? ⟨w.heap.size, 3, none⟩ = some (.int .i64 c.k) := cofr hx5 3 _ rfl
    have g1 := d6.cel.1 1 _ rfl
    have g2 := d7.cel.1 1 _ rfl
    have g3 : W5.cell? ⟨B, 1, none⟩ = some (.slice h.fa x.l.length h.fc) := g1
    have g4 : (W5.alloc (.cells #[.int .i64 c.f, .int .i64 c.a, .int .i64 c.e, .int .i64 c.k] 41)).cell? ⟨B, 1, none⟩ = some (.slice h.fa x.l.length h.fc) := g2
    have HR := Lib.hid d7.fates
    have HS := Lib.hid (fate_src W5.drew c)
    have HO := Lib.hid (fun (wq : World) (a' : Option Addr) (cap' : Nat) (hr : SlR wq 41 4 a' (x.l.length + 1) cap' (ftC x.l ++ ftc c)) (hk : Kept (blk h.fa h.fc) (W5.drew.alloc (.cells #[.int .i64 c.f, .int .i64 c.a, .int .i64 c.e, .int .i64 c.k] 41)) wq) (hb : ∀ b ∈ blk a' cap', b ∈ blk h.fa h.fc ∨ (W5.drew.alloc (.cells #[.int .i64 c.f, .int .i64 c.a, .int .i64 c.e, .int .i64 c.k] 41)).heap.size ≤ b) => d7.fated hk hr hb)
    have hle2 := d7.fates.le
    have hmo2 := d7.fates.most
    unfold maxLen at hmo2
    clear d5 d6 d7 hx5
    go_wp2_with fail
    go_region_law ((refine step_append_slr _ rfl (.tmp 45) (.tmp 47) 61 61 rfl 41 j0 (.agg #[.int .i64 0, .int .i64 0, .int .i64 0, .int .i64 0]) 4 32 Try.underlying61 hj hy0 hy1 (by decide) hy2 rfl h.fa x.l.length h.fc (ftC x.l) rfl HR.out _ rfl 1 (by decide) (ftc c) HS.out (by unfold maxLen; omega) (by omega) ?_; intro a2 cap2 wq2 hr8 hk8 hb8; obtain ⟨hfin8, c8, f8⟩ := HO.out wq2 a2 cap2 hr8 hk8 hb8; have HF8 := Lib.hid hfin8; clear hfin8))
    all_goals
      clear c8 f8 HR HS HO hr8 hk8 hb8 e0 e1 e2 e3 g1 g2 g3 g4
      generalize hW8 : wq2.setCell ⟨B, 1, none⟩ (.slice a2 (x.l.length + 1) cap2) = W8 at *
      clear hW8
      obtain ⟨d8, k8, b8⟩ := HF8.out
      have f0 := d8.cel.2 0
      have c0 := d8.cel.1 0 _ rfl
      obtain ⟨d9, k9⟩ := d8.timed now
      have HF := Lib.hid (show RetS (.tuple #[.int .i64 ((x.l.length : Nat) : Int), .int .i64 0]) B h ⟨now, x.l ++ [c]⟩ w (.returned (.tuple #[.int .i64 ((x.l.length : Nat) : Int), .int .i64 0])) (W8.setCell ⟨B, 0, none⟩ (.int .i64 now)) from by
        have kw8 : Kept (blks B h) w W8 := (kw5.trans ((Kept.of_below ((Below.refl _ W5).drew.alloc (Nat.le_refl _) (.cells #[.int .i64 c.f, .int .i64 c.a, .int .i64 c.e, .int .i64 c.k] 41)) (Nat.le_refl _) (blks B h))) (fun x hx => .inl hx)).trans k8 (fun y hy => by
          simp only [List.mem_cons, List.mem_append] at hy ⊢
          rcases hy with q | q | q | q
          · exact .inl (.inl q)
          · exact .inl (.inr (.inl q))
          · exact .inl (.inr (.inr (.inl q)))
          · rcases b5w y q with e | e
            · exact .inl (.inr (.inr (.inr e)))
            · exact .inr e)
        have kw9 := kw8.trans k9 (fun y hy => by
          simp only [List.mem_cons, List.mem_append] at hy ⊢
          rcases hy with q | q | q | q
          · exact .inl (.inl q)
          · exact .inl (.inr (.inl q))
          · rcases b8 y q with e | e
            · exact .inl (.inr (.inr (.inl e)))
            · have := kw5.size; simp at e; exact .inr (by omega)
          · rcases b5w y q with e | e
            · exact .inl (.inr (.inr (.inr e)))
            · exact .inr e)
        have e1 : (x.l ++ [c]).length = x.l.length + 1 := by simp
        have e2 : fly (x.l ++ [c]) = fly x.l ++ [x.l.length] := fly_put _ _ HCK.out
        have e3 : (fly (x.l ++ [c])).length = (fly x.l).length + 1 := by rw [e2]; simp
        have e4 : ints .i64 (nms (fly (x.l ++ [c]))) = ints .i64 (nms (fly x.l)) ++ [.int .i64 ((x.l.length : Nat) : Int)] := by rw [e2, nms_append, ints_append]; rfl
        have e5 : ftC (x.l ++ [c]) = ftC x.l ++ ftc c := by rw [ftC_append]; simp [ftC]
        refine ⟨rfl, ⟨a2, cap2, a', cap', h.m, fun j => if j = x.l.length then (a, cap) else h.rv j⟩, ⟨⟨n + 1, _, ?_, ?_, HFP.out.congr (tbl_put h x c HCK.out now a cap _ _ _ _)⟩, fun i hi => ?_⟩, kw9, fun b hb => ?_⟩
        · dsimp only
          rw [e1, e3, e4, e5]
          exact d9
        · dsimp only; rw [e1]; omega
        · dsimp only at hi ⊢
          rw [e2] at hi
          rcases List.mem_append.1 hi with hi | hi
          · have hlt := (mem_fly.1 hi).1
            rw [if_neg (by omega), cpAt_lt hlt]
            exact (HRW.out i hi).1.keep kw9 (HRW.out i hi).2
          · have : i = x.l.length := by simpa using hi
            subst this
            rw [if_pos rfl, cpAt_new]
            exact HBR.out.1.keep kw9 HBR.out.2
        · simp only [List.mem_cons, List.mem_append] at hb ⊢
          rcases hb with q | q | q | q
          · exact .inl (.inl q)
          · exact .inl (.inr (.inl q))
          · rcases b8 b q with e | e
            · exact .inl (.inr (.inr (.inl e)))
            · have := kw5.size; simp at e; exact .inr (by omega)
          · rcases b5w b q with e | e
            · exact .inl (.inr (.inr (.inr e)))
            · exact .inr e)
      clear d8 k8 b8 d9 k9 HF8 kw5 b5w
      go_wp2_with fail
      go_ret2
      exact HF.out
end Go.Proofs.Ytahegkbdefhlpaa.dc
/-!   Package duct: end.
-/
namespace Go.Proofs.Ytahegkbdefhlpaa.dc
open Go.RowKit Go.Maps aid mem
attribute [local go_sem ↓] Go.wp_at_zero Go.wp_at_succ
set_option linter.unusedVariables false
set_option linter.unusedSimpArgs false

theorem tbl_del (h : Hm) (x : Dk) {i : Nat} (hi : i ∈ fly x.l) (now k : Int) (hk : k ≠ 0) (fa oa : Option Addr) (fc oc : Nat) (j : Int) :
    (if j = (i : Int) then none else tbl h x j) = tbl ⟨fa, fc, oa, oc, h.m, h.rv⟩ (endL x i now k) j := by
  have hm := fun j => mem_fly_end hi now k hk j
  have hlt := (mem_fly.1 hi).1
  by_cases e : j = (i : Int)
  · subst e
    rw [if_pos rfl, tbl_no (by rintro ⟨_, q⟩; exact ((hm _).1 q).2 (by simp))]
  · rw [if_neg e]
    by_cases q : isF x j
    · have q2 : isF (endL x i now k) j := ⟨q.1, (hm _).2 ⟨q.2, by have := q.1; omega⟩⟩
      rw [tbl_yes q, tbl_yes q2]
      unfold rvV
      rw [cpAt_end hlt now k (by have := q.1; omega)]
    · rw [tbl_no q, tbl_no (by rintro ⟨q1, q2⟩; exact q ⟨q1, ((hm _).1 q2).1⟩)]
/-- a fate's end is written -/
theorem DM.ended {w : World} {B : Nat} {now : Int} {g off fn fc : Nat} {L : List Cp} {oa : Option Addr} {on oc : Nat} {O : List Value} {m n : Nat} {D : DataW Value} (h : DM w B now (some ⟨g, off, none⟩) fn fc (ftC L) oa on oc O m n D) {i : Nat} (hi : i < L.length) (t k : Int) {w' : World} (hk : Kept [g] w w')
    (hh : ∀ cur, w.heap[g]? = some (.cells cur 41 (0, 0)) → w'.heap[g]? = some (.cells ((cur.setIfInBounds (off + i * 4 + 2) (.int .i64 t)).setIfInBounds (off + i * 4 + 3) (.int .i64 k)) 41 (0, 0))) (hfc : 0 < fc) :
    DM w' B now (some ⟨g, off, none⟩) fn fc (ftC (L.set i (endC (cpAt L i) t k))) oa on oc O m n D := by
  obtain ⟨a1, a2, a3, a4, a5, a6⟩ := h.apart
  have hlen : L.length = fn := by have := h.fates.len; rw [ftC_len] at this; omega
  rw [blk_some _ _ _ hfc] at a2 a4 a6
  refine ⟨hk.heap a2 h.hdr, ?_, h.order.keep hk (fun b hb e => a6 b e hb), map_block h.map (fun o ho => hk.heap a4 ho)⟩
  refine ⟨by rw [ftC_len, List.length_set]; omega, h.fates.le, h.fates.most, fun h0 => ?_⟩
  obtain ⟨g', off', cur, hx, hg, h1, h2⟩ := h.fates.rest h0
  injection hx with hx
  injection hx with hx1 hx2
  subst hx1 hx2
  refine ⟨g, off, _, rfl, hh cur hg, by simpa using h1, fun j hj => ?_⟩
  have hle := h.fates.le
  rw [← ftC_set L i hi t k]
  rw [Array.getElem?_setIfInBounds, Array.getElem?_setIfInBounds, List.getElem?_set, List.getElem?_set]
  have hl := ftC_len L
  by_cases e3 : i * 4 + 3 = j
  · subst e3
    rw [if_pos (by omega), if_pos rfl, if_pos (by simp; omega), if_pos (by simp; omega)]
  · rw [if_neg (by omega), if_neg e3]
    by_cases e2 : i * 4 + 2 = j
    · subst e2
      rw [if_pos (by omega), if_pos rfl, if_pos (by omega), if_pos (by omega)]
    · rw [if_neg (by omega), if_neg e2]
      exact h2 j hj
set_option maxRecDepth 100000 in
set_option maxHeartbeats 4000000 in
theorem end_any {w : World} {B : Nat} {h : Hm} {x : Dk} (H : DAt w B h x) (hn : x.l.length ≤ 1000000) (i : Nat) (hi : i ∈ fly x.l) (now k : Int) (hk : k ≠ 0) :
    Calls Try.prog 34 #[.pointer (some ⟨B, 0, none⟩), .int .i64 (i : Nat), .int .i64 now, .int .i64 k] w (RetS (.tuple #[]) B h (endL x i now k) w) := by
  obtain ⟨p, hp, hpi, hfl⟩ := fly_end hi now k hk
  have hlt := (mem_fly.1 hi).1
  have hfll := fly_len x.l
  have HRW := Lib.hid (fun j (hj : j ∈ fly x.l) => And.intro (H.raws j hj) (fun b hb => (H.rawT hj b hb).2))
  obtain ⟨g, off, hoa, hol, hom, hnum⟩ := H.num hp
  have HS := Lib.hid (bsearch_q (w := w) (g := g) (off := off) (n := (fly x.l).length) (c := h.oc) (L := fly x.l) rfl (by omega) hnum (fly_rise x.l) p hp)
  rw [hpi] at HS
  obtain ⟨⟨n, D, d, hnx, hf⟩, hraws⟩ := H
  have d0 := d
  obtain ⟨g', off', P, R, hoa', hslp⟩ := d.order.slp (by omega)
  rw [hoa] at hoa'
  injection hoa' with hoa'
  injection hoa' with hg1 hg2
  subst hg1 hg2
  have HDEL := Lib.hid (fun q => show Calls Try.prog 40 #[.slice (some ⟨g, off, none⟩) (fly x.l).length h.oc, .int .i64 (p : Nat), .int .i64 ((p : Nat) + 1 : Int)] (w.drewN q) (DelP g off ((fly x.l).length - 1) h.oc ((nms (fly x.l)).take p ++ (nms (fly x.l)).drop (p + 1)) (w.drewN q)) from by
    have e := delete_any (w := w.drewN q) (k := p) (j := p + 1) (hslp.later ⟨rfl, rfl, rfl, Nat.le_refl _, fun _ _ => rfl⟩) hp rfl
    rw [show ((p + 1 : Nat) : Int) = (p : Int) + 1 by omega] at e
    exact e)
  unfold DelP at HDEL
  have hlts := d.lt
  rw [hoa] at d
  have HD := Lib.hid (fun q => d.later (w' := w.drewN q) ⟨rfl, rfl, rfl, Nat.le_refl _, fun _ _ => rfl⟩)
  have c3 := d.cel.1 3 _ rfl
  have hkey := key_ok ((i : Nat) : Int) (by omega)
  have HF := Lib.hid (hf.del ((i : Nat) : Int))
  have HFL := Lib.hid hfl
  have HK := Lib.hid hk
  have hwp : IntKind.i64.wrap ((p : Nat) + 1 : Int) = ((p + 1 : Nat) : Int) := by rw [IntWalk.i64_in _ (by omega)]; omega
  clear d hraws hf hslp hfl hk hpi hnum d0
  go_enter Try.func34, Try.ntmps34
  go_upto_region 2 with (go_at_call 39; go_must (with_reducible refine HS.out.at.mono ?_); rintro e w1 ⟨rfl, q, rfl⟩; have c3 := (HD.out q).cel.1 3 _ rfl)
  have hoc : 0 < h.oc := by omega
  have HO := Lib.hid (fun (q : Nat) (wq : World) (hr : SlR wq 3 1 (some ⟨g, off, none⟩) ((fly x.l).length - 1) h.oc (ints .i64 ((nms (fly x.l)).take p ++ (nms (fly x.l)).drop (p + 1)))) (hk : Kept [g] (w.drewN q) wq) => (HD.out q).ordered (by rw [blk_some _ _ _ hoc]; exact hk) hr (fun b hb => .inl hb))
  go_upto_region 3 with (go_at_call 40; go_must (with_reducible refine (HDEL.out q).mono ?_); rintro e w3 ⟨rfl, hr3, hk3⟩; obtain ⟨hfin3, c5, f5⟩ := HO.out q w3 hr3 hk3; have HF3 := Lib.hid hfin3; clear hfin3)
  clear c3 c5 f5 hr3 hk3 HO HDEL HS
  generalize hW4 : w3.setCell ⟨B, 3, none⟩ (.slice (some ⟨g, off, none⟩) ((fly x.l).length - 1) h.oc) = W4 at *
  clear hW4
  obtain ⟨d4, k4, _⟩ := HF3.out
  have kw4 : Kept (blks B h) w W4 := by
    rw [← hoa] at k4
    exact (Kept.of_below (w := w) (w' := w.drewN q) ⟨rfl, rfl, rfl, Nat.le_refl _, fun _ _ => rfl⟩ (Nat.le_refl _) (blks B h)).trans k4 (fun y hy => .inl hy)
  clear k4 HF3 HD
  have c2 := d4.cel.1 2 _ rfl
  have hmap := d4.map
  go_upto_region 4 with (at_delete; go_must (refine wpList_delete_own _ rfl _ _ 60 3 rfl 23 keyed Try.underlying60 RV h.m n D rfl hmap _ _ rfl hkey ?_); intro w5 hm5 ht5)
  obtain ⟨d5, k5⟩ := d4.mapped hm5 ht5.grown
  have hfc : 0 < h.fc := by have := d5.fates.le; omega
  obtain ⟨g1, o1, hfa, hcel⟩ := d5.fates.cell hfc
  have hmo := d5.fates.most
  have hle5 := d5.fates.le
  unfold maxLen at hmo
  have hh : ∀ j, j < 4 → w5.cell? ⟨g1, o1 + i * 4 + j, none⟩ = (ftc (cpAt x.l i))[j]? := fun j hj => by rw [Nat.add_assoc, hcel (i * 4 + j) (by omega)]; exact ftC_get x.l i hlt j hj
  have q2 : w5.cell? ⟨g1, o1 + i * 4 + 2, none⟩ = some (.int .i64 (cpAt x.l i).e) := hh 2 (by omega)
  have q3 : w5.cell? ⟨g1, o1 + i * 4 + 3, none⟩ = some (.int .i64 (cpAt x.l i).k) := hh 3 (by omega)
  clear hh hcel
  have d6 := d5
  rw [hfa] at d6
  obtain ⟨a1, a2, a3, a4, a5, a6⟩ := d6.apart
  rw [blk_some _ _ _ hfc] at a2
  have hBg : B ≠ g1 := by simpa using a2
  have c1 := d6.cel.1 1 _ rfl
  obtain ⟨_, cur, hgc⟩ := d6.fates.lt g1 (by rw [blk_some _ _ _ hfc]; simp)
  have fz := fofr hgc
  have fz2 := fz (o1 + i * 4 + 2)
  have fz3 := fz (o1 + i * 4 + 3)
  have r1 : ∀ a v, (w5.setCell ⟨g1, a, none⟩ v).cell? ⟨B, 1, none⟩ = some (.slice (some ⟨g1, o1, none⟩) x.l.length h.fc) := fun a v => (set_other (fun e => hBg (by injection e with e _; exact e.symm))).trans c1
  have r2 : ∀ v, (w5.setCell ⟨g1, o1 + i * 4 + 3, none⟩ v).cell? ⟨g1, o1 + i * 4 + 2, none⟩ = some (.int .i64 (cpAt x.l i).e) := fun v => (set_other (fun e => by injection e; omega)).trans q2
  have r3 : ∀ v, (w5.setCell ⟨g1, o1 + i * 4 + 2, none⟩ v).cell? ⟨g1, o1 + i * 4 + 3, none⟩ = some (.int .i64 (cpAt x.l i).k) := fun v => (set_other (fun e => by injection e; omega)).trans q3
  have k6 : Kept [g1] w5 (((w5.setCell ⟨g1, o1 + i * 4 + 2, none⟩ (.int .i64 now)).setCell ⟨g1, o1 + i * 4 + 3, none⟩ (.int .i64 k)).drew) := (((Kept.refl [g1] w5).setCell (.inl (by simp)) _).setCell (.inl (by simp)) _).drew
  have d7 := d6.ended (L := x.l) hlt now k k6 (fun cur hc => heap_setCell_same _ g1 _ _ _ _ (heap_setCell_same w5 g1 _ _ _ _ hc)) hfc
  have kw7 : Kept (blks B h) w (((w5.setCell ⟨g1, o1 + i * 4 + 2, none⟩ (.int .i64 now)).setCell ⟨g1, o1 + i * 4 + 3, none⟩ (.int .i64 k)).drew) :=
    (kw4.trans k5 (fun y hy => .inl (by simp at hy; simp [hy]))).trans k6 (fun y hy => .inl (by simp at hy; show y ∈ B :: h.m :: (blk h.fa h.fc ++ blk h.oa h.oc); rw [hfa, blk_some _ _ _ hfc]; simp [hy]))
  have H7 := Lib.hid (And.intro d7 kw7)
  clear a1 a2 a3 a4 a5 a6 hgc fz d6 k6 d7 kw7 kw4 k5 d5 d4 hmap c2 c3 hm5 ht5
  go_wp2_with fail
  go_region
  all_goals
    clear r1 r2 r3 q2 q3 fz2 fz3 c1
    generalize (((w5.setCell ⟨g1, o1 + i * 4 + 2, none⟩ (.int .i64 now)).setCell ⟨g1, o1 + i * 4 + 3, none⟩ (.int .i64 k)).drew) = W7 at *
    obtain ⟨d7, kw7⟩ := H7.out
    have f0 := d7.cel.2 0
    have c0 := d7.cel.1 0 _ rfl
    obtain ⟨d9, k9⟩ := d7.timed now
    have HX := Lib.hid (show RetS (.tuple #[]) B h (endL x i now k) w (.returned (.tuple #[])) (W7.setCell ⟨B, 0, none⟩ (.int .i64 now)) from by
      have kw9 : Kept (blks B h) w (W7.setCell ⟨B, 0, none⟩ (.int .i64 now)) := kw7.trans k9 (fun y hy => .inl (by show y ∈ B :: h.m :: (blk h.fa h.fc ++ blk h.oa h.oc); rw [hfa, hoa]; exact hy))
      have e1 : (endL x i now k).l.length = x.l.length := by unfold endL; simp
      have e2 : (fly (endL x i now k).l).length = (fly x.l).length - 1 := by rw [HFL.out, List.length_append, List.length_take, List.length_drop]; omega
      have e4 : nms (fly (endL x i now k).l) = (nms (fly x.l)).take p ++ (nms (fly x.l)).drop (p + 1) := by rw [HFL.out, nms_append]; simp [nms, List.map_take, List.map_drop]
      refine ⟨rfl, ⟨h.fa, h.fc, h.oa, h.oc, h.m, h.rv⟩, ⟨⟨n, _, ?_, ?_, HF.out.congr (tbl_del h x hi now k HK.out _ _ _ _)⟩, fun j hj => ?_⟩, kw9, fun b hb => .inl hb⟩
      · dsimp only
        rw [e1, e2, e4, hfa, hoa]
        exact d9
      · rw [e1]; exact hnx
      · obtain ⟨q1, q2⟩ := (mem_fly_end hi now k HK.out j).1 hj
        dsimp only
        rw [cpAt_end hlt now k q2]
        exact (HRW.out j q1).1.keep kw9 (HRW.out j q1).2)
    clear d7 kw7 d9 k9 H7
    go_wp2_with fail
    go_end0
    exact HX.out
end Go.Proofs.Ytahegkbdefhlpaa.dc
/-!   Package duct: New, Put, Double, Take, Drop.
-/
namespace Go.Proofs.Ytahegkbdefhlpaa.dc
open Go.RowKit Go.Maps aid mem
attribute [local go_sem ↓] Go.wp_at_zero Go.wp_at_succ
set_option linter.unusedVariables false
set_option linter.unusedSimpArgs false

/-- as a slice that is read -/
theorem SlA.of_r {w : World} {e : TypeId} {k : IntKind} {a : Option Addr} {n cap : Nat} {l : List Int} (h : SlR w e 1 a n cap (ints k l)) : SlA k w a n cap l :=
  ⟨by have := h.len; rw [ints_len] at this; omega, h.le, h.most, fun e0 => by
    by_cases hc : 0 < cap
    · obtain ⟨g, off, cur, hx, _⟩ := h.rest hc
      rw [e0] at hx; cases hx
    · omega, fun h0 => by
    obtain ⟨g, off, rfl, hc⟩ := h.cell h0
    refine ⟨g, off, rfl, fun i hi => ?_⟩
    have hl : l.length = n := by have := h.len; rw [ints_len] at this; omega
    rw [hc i (by omega), ints, getD_map_some (by omega)]⟩
theorem RetS.from {v : Value} {B : Nat} {h : Hm} {x' : Dk} {w W w' : World} {e : Ending} (r : RetS v B h x' W e w') (hb : Below w.heap.size w W) : RetS v B h x' w e w' := by
  obtain ⟨rfl, h', d, k, b⟩ := r
  exact ⟨rfl, h', d, (Kept.of_below hb (Nat.le_refl _) (blks B h)).trans k (fun y hy => .inl hy), fun c hc => (b c hc).imp id (fun e => Nat.le_trans hb.size e)⟩
theorem RetS.drewN {v : Value} {B : Nat} {h : Hm} {x' : Dk} {w w' : World} {e : Ending} {q : Nat} (r : RetS v B h x' (w.drewN q) e w') : RetS v B h x' w e w' := r.from ⟨rfl, rfl, rfl, Nat.le_refl _, fun _ _ => rfl⟩
/-- New -/
def RetN (w : World) (e : Ending) (w' : World) : Prop := ∃ B h, e = .returned (.pointer (some ⟨B, 0, none⟩)) ∧ DAt w' B h ⟨0, []⟩ ∧ Below w.heap.size w w' ∧ ∀ b ∈ blks B h, w.heap.size ≤ b
set_option maxHeartbeats 1000000 in
theorem new_any (w : World) : Calls Try.prog 8 #[] w (RetN w) := by
  have hmm := @run_makeMap Try.prog
  go_enter Try.func8, Try.ntmps8
  go_wp2
  have b1 := bal (w := w) (.map #[] 0)
  have b2 := bal (w := w.alloc (.map #[] 0)) (.cells #[.int .i64 0, .slice none 0 0, .map (some w.heap.size), .slice none 0 0] 64)
  have hx := heap_alloc_new (w.alloc (.map #[] 0)) (.cells #[.int .i64 0, .slice none 0 0, .map (some w.heap.size), .slice none 0 0] 64)
  have hs : (w.alloc (.map #[] 0)).heap.size = w.heap.size + 1 := by simp
  rw [hs] at hx
  have hm : MapAt (w.alloc (.map #[] 0)) w.heap.size 0 (.map []) := World.ownsMap_made w Try.prog 3 RV
  go_ret
  refine ⟨w.heap.size + 1, ⟨none, 0, none, 0, w.heap.size, fun _ => (none, 0)⟩, rfl, ⟨⟨0, .map [], ⟨hx, SlR.nil _ _ 4, SlR.nil _ _ 1, map_block hm (fun o ho => (b2.block _ (lt_of_block ho)).trans ho)⟩, Nat.le_refl _, Mf.nil.congr (fun i => (tbl_no (fun q => by have := q.2; simp [fly_nil] at this)).symm)⟩, fun i hi => by simp [fly_nil] at hi⟩, b1.trans (b2.mono b1.size), fun b hb => ?_⟩
  simp [blk_zero] at hb
  omega
set_option maxRecDepth 100000 in
set_option maxHeartbeats 2000000 in
theorem put_any {w : World} {B : Nat} {h : Hm} {x : Dk} (H : DAt w B h x) (hn : x.l.length ≤ 1000000) {a : Option Addr} {n cap : Nat} {l : List Int} (hl : SlA .u8 w a n cap l) (now : Int) :
    Calls Try.prog 12 #[.pointer (some ⟨B, 0, none⟩), .slice a n cap, .int .i64 now] w (RetS (.tuple #[.int .i64 (putN x n now), .int .i64 (putE x n now)]) B h (putX x l now) w) := by
  have HW := Lib.hid (when_q H now)
  have hlen := hl.len
  rcases whenE_or x now with e1 | e1
  case inr =>
    have HX : Hid (putN x n now = 0 ∧ putE x n now = 3 ∧ putX x l now = x) := Lib.hid (by
      have e : ∀ m, putE x m now = 3 := fun m => by unfold putE; rw [if_pos (by rw [e1]; decide)]
      exact ⟨by unfold putN; rw [if_neg (by rw [e]; decide)], e _, by unfold putX; rw [if_neg (by rw [e]; decide)]⟩)
    rw [HX.out.1, HX.out.2.1, HX.out.2.2]
    rw [e1] at HW
    have HF := Lib.hid (fun q => H.fin (bdn (Below.refl _ _) q) (.tuple #[.int .i64 0, .int .i64 3]))
    clear H hl e1 hlen
    go_enter Try.func12, Try.ntmps12
    go_wp2_with (go_at_call 30; (with_reducible refine HW.out.at.mono ?_); rintro e w1 ⟨rfl, q, rfl⟩)
    go_ret2
    exact HF.out q
  case inl =>
  by_cases h2 : 2096 < n
  · have HX : Hid (putN x n now = 0 ∧ putE x n now = 9 ∧ putX x l now = x) := Lib.hid (by
      have e : putE x n now = 9 := by unfold putE; rw [if_neg (by rw [e1]; decide), if_pos h2]
      exact ⟨by unfold putN; rw [if_neg (by rw [e]; decide)], e, by unfold putX; rw [hlen, if_neg (by rw [e]; decide)]⟩)
    rw [HX.out.1, HX.out.2.1, HX.out.2.2]
    rw [e1] at HW
    have HF := Lib.hid (fun q => H.fin (bdn (Below.refl _ _) q) (.tuple #[.int .i64 0, .int .i64 9]))
    clear H hl e1 hlen
    go_enter Try.func12, Try.ntmps12
    go_wp2_with (go_at_call 30; (with_reducible refine HW.out.at.mono ?_); rintro e w1 ⟨rfl, q, rfl⟩)
    go_ret2
    exact HF.out q
  · have HX : Hid (putN x n now = sendN x ∧ putE x n now = sendE x ∧ putX x l now = sendX x (newC x l now) now) := Lib.hid (by
      have e : putE x n now = sendE x := by unfold putE; rw [if_neg (by rw [e1]; decide), if_neg h2]
      exact ⟨by unfold putN sendN; rw [e], e, by unfold putX sendX; rw [hlen, e]⟩)
    rw [HX.out.1, HX.out.2.1, HX.out.2.2]
    rw [e1] at HW
    have HC := Lib.hid (fun q => bclone_any (hl.drewN q) (show n ≤ 1000000000000 by omega))
    unfold RetB at HC
    have HT := Lib.hid (fun W (hb : Below w.heap.size w W) => total_q (H.later hb))
    have HSD := Lib.hid (fun W (hb : Below w.heap.size w W) (a' : Option Addr) (cap' : Nat) (hr : BRow W a' l.length cap' l) => show Calls Try.prog 31 #[.pointer (some ⟨B, 0, none⟩), .slice a' l.length cap', .agg #[.int .i64 ((x.l.length : Nat) : Int), .int .i64 now, .int .i64 0, .int .i64 0], .int .i64 now] W (fun e w' => RetS (.tuple #[.int .i64 (sendN x), .int .i64 (sendE x)]) B h (sendX x (newC x l now) now) w e w') from
      (send_any (H.later hb) hn (newC x l now) rfl a' cap' hr now).mono (fun e w' r => r.from hb))
    clear H hl e1 HX hlen
    go_enter Try.func12, Try.ntmps12
    go_wp2_with (first
      | (go_at_call 30; (with_reducible refine HW.out.at.mono ?_); rintro e w1 ⟨rfl, q, rfl⟩)
      | (go_at_call 32; go_must (with_reducible refine (HC.out q).mono ?_); rintro e w2 ⟨a', cap', rfl, hr, hb, _⟩; replace hb := (bdn (Below.refl w.heap.size w) q).trans hb)
      | (go_at_call 18; go_must (with_reducible refine (HT.out _ hb).at.mono ?_); rintro e w3 ⟨rfl, q2, rfl⟩)
      | (go_at_call 31; go_must (with_reducible refine (HSD.out _ (bdn hb q2) a' cap' (hr.later ⟨rfl, rfl, rfl, Nat.le_refl _, fun _ _ => rfl⟩)).mono ?_); rintro e w4 ⟨rfl, hr4⟩))
    go_ret2
    exact ⟨rfl, hr4⟩
def dblV (x : Dk) (id now : Int) : Value := .tuple #[.int .i64 (dblN x id now), .int .i64 (dblE x id now)]
set_option maxRecDepth 100000 in
set_option maxHeartbeats 2000000 in
theorem double_any {w : World} {B : Nat} {h : Hm} {x : Dk} (H : DAt w B h x) (hn : x.l.length ≤ 1000000) (id now : Int) (hi : -9223372036854775808 ≤ id ∧ id ≤ 9223372036854775807) :
    Calls Try.prog 19 #[.pointer (some ⟨B, 0, none⟩), .int .i64 id, .int .i64 now] w (RetS (.tuple #[.int .i64 (dblN x id now), .int .i64 (dblE x id now)]) B h (dblX x id now) w) := by
  have HW := Lib.hid (which_q H id now hi)
  rcases whichE_or x id now with ⟨e1, e2, e3⟩ | ⟨e1, e2⟩ | ⟨e1, e2, e3⟩
  case inr.inl =>
    have HX : Hid (dblN x id now = 0 ∧ dblE x id now = 3 ∧ dblX x id now = x) := Lib.hid (by
      have e : dblE x id now = 3 := by unfold dblE; rw [e1, if_pos (by decide)]
      exact ⟨by unfold dblN; rw [if_neg (by rw [e]; decide)], e, by unfold dblX; rw [if_neg (by rw [e]; decide)]⟩)
    rw [HX.out.1, HX.out.2.1, HX.out.2.2]
    rw [e1] at HW
    have HF := Lib.hid (fun q => H.fin (bdn (Below.refl _ _) q) (.tuple #[.int .i64 0, .int .i64 3]))
    clear H e1 e2
    go_enter Try.func19, Try.ntmps19
    go_wp2_with (go_at_call 33; (with_reducible refine HW.out.at.mono ?_); rintro e w1 ⟨rfl, q, rfl⟩)
    go_ret2
    exact HF.out q
  case inr.inr =>
    have HX : Hid (dblN x id now = 0 ∧ dblE x id now = 10 ∧ dblX x id now = x) := Lib.hid (by
      have e : dblE x id now = 10 := by unfold dblE; rw [e1, if_pos (by decide)]
      exact ⟨by unfold dblN; rw [if_neg (by rw [e]; decide)], e, by unfold dblX; rw [if_neg (by rw [e]; decide)]⟩)
    rw [HX.out.1, HX.out.2.1, HX.out.2.2]
    rw [e1] at HW
    have HF := Lib.hid (fun q => H.fin (bdn (Below.refl _ _) q) (.tuple #[.int .i64 0, .int .i64 10]))
    clear H e1 e2 e3
    go_enter Try.func19, Try.ntmps19
    go_wp2_with (go_at_call 33; (with_reducible refine HW.out.at.mono ?_); rintro e w1 ⟨rfl, q, rfl⟩)
    go_ret2
    exact HF.out q
  case inl =>
    obtain ⟨q1, q2, q3⟩ := isF_lt e3
    have HX : Hid (dblN x id now = sendN x ∧ dblE x id now = sendE x ∧ dblX x id now = sendX x (cpAt x.l id.toNat) now) := Lib.hid (by
      have e : dblE x id now = sendE x := by unfold dblE; rw [e1, if_neg (by decide)]
      exact ⟨by unfold dblN sendN; rw [e], e, by unfold dblX sendX; rw [e]⟩)
    rw [HX.out.1, HX.out.2.1, HX.out.2.2]
    rw [e1] at HW
    have HL := Lib.hid (fun q => ((H.drewN q).look id hi).2)
    rw [show tbl h x id = some (rvV h x id.toNat) from tbl_yes e3] at HL
    have HFT := Lib.hid (fun q => And.intro (H.drewN q).cs ((H.drewN q).fate q1))
    have HSD := Lib.hid (fun q => show Calls Try.prog 31 #[.pointer (some ⟨B, 0, none⟩), .slice (h.rv id.toNat).1 (cpAt x.l id.toNat).raw.length (h.rv id.toNat).2, .agg #[.int .i64 (cpAt x.l id.toNat).f, .int .i64 (cpAt x.l id.toNat).a, .int .i64 (cpAt x.l id.toNat).e, .int .i64 (cpAt x.l id.toNat).k], .int .i64 now] (w.drewN q) (fun e w' => RetS (.tuple #[.int .i64 (sendN x), .int .i64 (sendE x)]) B h (sendX x (cpAt x.l id.toNat) now) w e w') from
      (send_any (H.drewN q) hn (cpAt x.l id.toNat) q3 _ _ ((H.drewN q).raws _ e3.2) now).mono (fun e w' r => r.drewN))
    unfold rvV at HL
    obtain ⟨i, rfl⟩ : ∃ i : Nat, id = (i : Int) := ⟨id.toNat, by omega⟩
    simp only [Int.toNat_natCast] at *
    have hi2 : i < x.l.length := by omega
    generalize cpAt x.l i = c at *
    generalize h.rv i = rr at *
    obtain ⟨ra, rc⟩ := rr
    dsimp only at *
    clear H e1 e2 e3 HX q1 q2 q3
    simp only [Option.getD_some] at HL
    go_enter Try.func19, Try.ntmps19
    go_upto_region 4 with (go_at_call 33; (with_reducible refine HW.out.at.mono ?_); rintro e w1 ⟨rfl, q, rfl⟩; have hl := HL.out q; obtain ⟨⟨c0, c1, c2, c3⟩, g, off, hg, hlc, hcm, k0, k1, k2, k3⟩ := HFT.out q; rw [hg] at c1; unfold maxLen at hcm)
    have hl2 : ∀ m, (Instr.lookup 60 (.map (some h.m)) (.int .i64 (i : Nat)) false).run Try.prog ((w.drewN q).drewN m) = .ok (.slice ra c.raw.length rc) ((w.drewN q).drewN m) := fun m => by have := HL.out (q + m); rwa [← World.drewN_drewN] at this
    have hl3 : (Instr.lookup 60 (.map (some h.m)) (.int .i64 (i : Nat)) false).run Try.prog (w.drewN q).drew = .ok (.slice ra c.raw.length rc) (w.drewN q).drew := hl2 1
    have HS1 := HSD.out (q + 1)
    rw [← World.drewN_drewN] at HS1
    have HS2 := Lib.hid (show Calls Try.prog 31 #[.pointer (some ⟨B, 0, none⟩), .slice ra c.raw.length rc, .agg #[.int .i64 c.f, .int .i64 c.a, .int .i64 c.e, .int .i64 c.k], .int .i64 now] (w.drewN q).drew (fun e w' => RetS (.tuple #[.int .i64 (sendN x), .int .i64 (sendE x)]) B h (sendX x c now) w e w') from HS1)
    clear HS1 hl2 hl HW HL HFT HSD hg
    generalize w.drewN q = W at *
    go_wp2_with fail
    go_region_with (go_at_call 31; go_must (with_reducible refine HS2.out.mono ?_); rintro e w4 ⟨rfl, hr4⟩)
    all_goals
      go_wp2_with fail
      go_ret2
      exact ⟨rfl, hr4⟩
end Go.Proofs.Ytahegkbdefhlpaa.dc
/-!   Package duct: Take, Drop; a duct that is none.
-/
namespace Go.Proofs.Ytahegkbdefhlpaa.dc
open Go.RowKit Go.Maps aid mem
attribute [local go_sem ↓] Go.wp_at_zero Go.wp_at_succ
set_option linter.unusedVariables false
set_option linter.unusedSimpArgs false

/-- what is told of a copy that comes -/
def takL (x : Dk) (id now : Int) : List Int := if whichE x id now = 0 then (cpAt x.l id.toNat).raw else []
def RetT (x : Dk) (id now : Int) (B : Nat) (h : Hm) (w : World) (e : Ending) (w' : World) : Prop := ∃ a cap, BRow w' a (takL x id now).length cap (takL x id now) ∧ RetS (.tuple #[.slice a (takL x id now).length cap, .int .i64 (whichE x id now)]) B h (endX x id now 1) w e w'
set_option maxRecDepth 100000 in
set_option maxHeartbeats 2000000 in
theorem take_any {w : World} {B : Nat} {h : Hm} {x : Dk} (H : DAt w B h x) (hn : x.l.length ≤ 1000000) (id now : Int) (hi : -9223372036854775808 ≤ id ∧ id ≤ 9223372036854775807) (hr : ∀ i ∈ fly x.l, (cpAt x.l i).raw.length ≤ 1000000) :
    Calls Try.prog 15 #[.pointer (some ⟨B, 0, none⟩), .int .i64 id, .int .i64 now] w (RetT x id now B h w) := by
  have HW := Lib.hid (which_q H id now hi)
  rcases whichE_or x id now with ⟨e1, e2, e3⟩ | ⟨e1, e2⟩ | ⟨e1, e2, e3⟩
  case inr.inl =>
    have HF := Lib.hid (fun q => show RetT x id now B h w (.returned (.tuple #[.slice none 0 0, .int .i64 3])) (w.drewN q) from by
      have e : takL x id now = [] := by unfold takL; rw [e1, if_neg (by decide)]
      have e4 : endX x id now 1 = x := by unfold endX; rw [e1, if_neg (by decide)]
      unfold RetT
      rw [e, e1, e4]
      exact ⟨none, 0, SlR.nil _ _ 1, H.fin (bdn (Below.refl _ _) q) _⟩)
    rw [e1] at HW
    clear H e1 e2
    go_enter Try.func15, Try.ntmps15
    go_wp2_with (go_at_call 33; (with_reducible refine HW.out.at.mono ?_); rintro e w1 ⟨rfl, q, rfl⟩)
    go_ret2
    exact HF.out q
  case inr.inr =>
    have HF := Lib.hid (fun q => show RetT x id now B h w (.returned (.tuple #[.slice none 0 0, .int .i64 10])) (w.drewN q) from by
      have e : takL x id now = [] := by unfold takL; rw [e1, if_neg (by decide)]
      have e4 : endX x id now 1 = x := by unfold endX; rw [e1, if_neg (by decide)]
      unfold RetT
      rw [e, e1, e4]
      exact ⟨none, 0, SlR.nil _ _ 1, H.fin (bdn (Below.refl _ _) q) _⟩)
    rw [e1] at HW
    clear H e1 e2 e3
    go_enter Try.func15, Try.ntmps15
    go_wp2_with (go_at_call 33; (with_reducible refine HW.out.at.mono ?_); rintro e w1 ⟨rfl, q, rfl⟩)
    go_ret2
    exact HF.out q
  case inl =>
    obtain ⟨q1, q2, q3⟩ := isF_lt e3
    have HL := Lib.hid (fun q => ((H.drewN q).look id hi).2)
    rw [show tbl h x id = some (rvV h x id.toNat) from tbl_yes e3] at HL
    obtain ⟨i, rfl⟩ : ∃ i : Nat, id = (i : Int) := ⟨id.toNat, by omega⟩
    have e3' : i ∈ fly x.l := by have := e3.2; simpa using this
    have HC := Lib.hid (fun q => bclone_any (SlA.of_r (((H.drewN q).raws i e3'))) (show (cpAt x.l i).raw.length ≤ 1000000000000 by have := hr i e3'; omega))
    have HE := Lib.hid (fun W (hb : Below w.heap.size w W) => end_any (H.later hb) hn i e3' now 1 (by decide))
    have HC2 := Lib.hid (fun q => (H.drewN q).cs.2.2.1)
    have HX : Hid (takL x (i : Int) now = (cpAt x.l i).raw ∧ endX x (i : Int) now 1 = endL x i now 1 ∧ whichE x (i : Int) now = 0) := Lib.hid ⟨by unfold takL; rw [e1, if_pos rfl]; rfl, by unfold endX; rw [e1, if_pos rfl]; rfl, e1⟩
    unfold RetT
    rw [HX.out.1, HX.out.2.1, HX.out.2.2]
    rw [e1] at HW
    unfold rvV at HL
    have HN := Lib.hid (fun (c : Nat) (hc : w.heap.size ≤ c) => show c ∉ blks B h from fun e => by have := H.lt c e; omega)
    clear H e1 e2 e3 HX q1 q2 q3 hr
    simp only [Int.toNat_natCast, Option.getD_some] at HL
    unfold RetB at HC
    generalize (cpAt x.l i).raw = l at *
    generalize h.rv i = rr at *
    obtain ⟨ra, rc⟩ := rr
    dsimp only at *
    go_enter Try.func15, Try.ntmps15
    go_wp2_with (first
      | (go_at_call 33; (with_reducible refine HW.out.at.mono ?_); rintro e w1 ⟨rfl, q, rfl⟩; have hl := HL.out q; have hc2 := HC2.out q)
      | (go_at_call 32; go_must (with_reducible refine (HC.out q).mono ?_); rintro e w2 ⟨a', cap', rfl, hr, hb, hbn⟩; replace hb := (bdn (Below.refl w.heap.size w) q).trans hb)
      | (go_at_call 34; go_must (with_reducible refine (HE.out _ hb).mono ?_); rintro e w4 ⟨rfl, h', d', k', b'⟩))
    go_ret2
    exact ⟨a', cap', hr.keep k' (fun b hb' => HN.out b (hbn b hb')), RetS.from ⟨rfl, h', d', k', b'⟩ hb⟩
set_option maxRecDepth 100000 in
set_option maxHeartbeats 2000000 in
theorem drop_any {w : World} {B : Nat} {h : Hm} {x : Dk} (H : DAt w B h x) (hn : x.l.length ≤ 1000000) (id now : Int) (hi : -9223372036854775808 ≤ id ∧ id ≤ 9223372036854775807) :
    Calls Try.prog 14 #[.pointer (some ⟨B, 0, none⟩), .int .i64 id, .int .i64 now] w (RetS (.int .i64 (whichE x id now)) B h (endX x id now 2) w) := by
  have HW := Lib.hid (which_q H id now hi)
  rcases whichE_or x id now with ⟨e1, e2, e3⟩ | ⟨e1, e2⟩ | ⟨e1, e2, e3⟩
  case inr.inl =>
    have e4 : endX x id now 2 = x := by unfold endX; rw [e1, if_neg (by decide)]
    have HF := Lib.hid (fun q => H.fin (bdn (Below.refl _ _) q) (.int .i64 3))
    rw [e1, e4]
    rw [e1] at HW
    clear H e1 e2 e4
    go_enter Try.func14, Try.ntmps14
    go_wp2_with (go_at_call 33; (with_reducible refine HW.out.at.mono ?_); rintro e w1 ⟨rfl, q, rfl⟩)
    go_ret
    exact HF.out q
  case inr.inr =>
    have e4 : endX x id now 2 = x := by unfold endX; rw [e1, if_neg (by decide)]
    have HF := Lib.hid (fun q => H.fin (bdn (Below.refl _ _) q) (.int .i64 10))
    rw [e1, e4]
    rw [e1] at HW
    clear H e1 e2 e3 e4
    go_enter Try.func14, Try.ntmps14
    go_wp2_with (go_at_call 33; (with_reducible refine HW.out.at.mono ?_); rintro e w1 ⟨rfl, q, rfl⟩)
    go_ret
    exact HF.out q
  case inl =>
    obtain ⟨i, rfl⟩ : ∃ i : Nat, id = (i : Int) := ⟨id.toNat, by have := e3.1; omega⟩
    have e3' : i ∈ fly x.l := by have := e3.2; simpa using this
    have HE := Lib.hid (fun q => (end_any (H.drewN q) hn i e3' now 2 (by decide)).mono (fun e w' r => r.drewN))
    have e4 : endX x (i : Int) now 2 = endL x i now 2 := by unfold endX; rw [e1, if_pos rfl]; rfl
    rw [e1, e4]
    rw [e1] at HW
    clear H e1 e2 e3 e3' e4
    go_enter Try.func14, Try.ntmps14
    go_wp2_with (first
      | (go_at_call 33; (with_reducible refine HW.out.at.mono ?_); rintro e w1 ⟨rfl, q, rfl⟩)
      | (go_at_call 34; go_must (with_reducible refine (HE.out q).mono ?_); rintro e w4 ⟨rfl, hr4⟩))
    go_ret
    exact ⟨rfl, hr4⟩
/-- of none -/
theorem when_nil (now : Int) (w : World) : Q 30 #[.pointer none, .int .i64 now] (.int .i64 1) w := by
  refine Q.mk fun m => ?_
  generalize w.drewN m = w at *
  go_enter Try.func30, Try.ntmps30
  go_wp2
  go_ret
  exact ⟨rfl, 0, rfl⟩
theorem which_nil (id now : Int) (w : World) : Q 33 #[.pointer none, .int .i64 id, .int .i64 now] (.int .i64 1) w := by
  intro m
  have HW := Lib.hid (when_nil now w)
  go_enter Try.func33, Try.ntmps33
  go_wp2_with (go_at_call 30; (with_reducible refine (HW.out.nth m).mono ?_); rintro e w1 ⟨rfl, q, rfl⟩)
  go_ret
  exact ⟨rfl, q, rfl⟩
theorem len_nil (w : World) : Q 17 #[.pointer none] (.int .i64 0) w := by
  refine Q.mk fun m => ?_
  generalize w.drewN m = w at *
  go_enter Try.func17, Try.ntmps17
  go_wp2
  go_ret
  exact ⟨rfl, 0, rfl⟩
theorem total_nil (w : World) : Q 18 #[.pointer none] (.int .i64 0) w := by
  refine Q.mk fun m => ?_
  generalize w.drewN m = w at *
  go_enter Try.func18, Try.ntmps18
  go_wp2
  go_ret
  exact ⟨rfl, 0, rfl⟩
theorem clone_nil (w : World) : Q 11 #[.pointer none] (.pointer none) w := by
  refine Q.mk fun m => ?_
  generalize w.drewN m = w at *
  go_enter Try.func11, Try.ntmps11
  go_wp2
  go_ret
  exact ⟨rfl, 0, rfl⟩
theorem put_nil (v : Value) (now : Int) (w : World) : Q 12 #[.pointer none, v, .int .i64 now] (.tuple #[.int .i64 0, .int .i64 1]) w := by
  intro m
  have HW := Lib.hid (when_nil now w)
  go_enter Try.func12, Try.ntmps12
  go_wp2_with (go_at_call 30; (with_reducible refine (HW.out.nth m).mono ?_); rintro e w1 ⟨rfl, q, rfl⟩)
  go_ret2
  exact ⟨rfl, q, rfl⟩
theorem double_nil (id now : Int) (w : World) : Q 19 #[.pointer none, .int .i64 id, .int .i64 now] (.tuple #[.int .i64 0, .int .i64 1]) w := by
  intro m
  have HW := Lib.hid (which_nil id now w)
  go_enter Try.func19, Try.ntmps19
  go_wp2_with (go_at_call 33; (with_reducible refine (HW.out.nth m).mono ?_); rintro e w1 ⟨rfl, q, rfl⟩)
  go_ret2
  exact ⟨rfl, q, rfl⟩
theorem take_nil (id now : Int) (w : World) : Q 15 #[.pointer none, .int .i64 id, .int .i64 now] (.tuple #[.slice none 0 0, .int .i64 1]) w := by
  intro m
  have HW := Lib.hid (which_nil id now w)
  go_enter Try.func15, Try.ntmps15
  go_wp2_with (go_at_call 33; (with_reducible refine (HW.out.nth m).mono ?_); rintro e w1 ⟨rfl, q, rfl⟩)
  go_ret2
  exact ⟨rfl, q, rfl⟩
theorem drop_nil (id now : Int) (w : World) : Q 14 #[.pointer none, .int .i64 id, .int .i64 now] (.int .i64 1) w := by
  intro m
  have HW := Lib.hid (which_nil id now w)
  go_enter Try.func14, Try.ntmps14
  go_wp2_with (go_at_call 33; (with_reducible refine (HW.out.nth m).mono ?_); rintro e w1 ⟨rfl, q, rfl⟩)
  go_ret
  exact ⟨rfl, q, rfl⟩
end Go.Proofs.Ytahegkbdefhlpaa.dc
/-!   Package duct: Clone; what is told of a copy under way; Nth. (The clones written by gen_dctt.py.)
-/
namespace Go.Proofs.Ytahegkbdefhlpaa.dc
open Go.RowKit Go.Maps aid mem
attribute [local go_sem ↓] Go.wp_at_zero Go.wp_at_succ
set_option linter.unusedVariables false
set_option linter.unusedSimpArgs false

/-- a row of its own -/
def RetR (t : TypeId) (sz n : Nat) (l : List Value) (w : World) (e : Ending) (w' : World) : Prop := ∃ a' cap', e = .returned (.slice a' n cap') ∧ SlR w' t sz a' n cap' l ∧ Below w.heap.size w w' ∧ ∀ b ∈ blk a' cap', w.heap.size ≤ b
set_option maxRecDepth 100000 in
set_option maxHeartbeats 1000000 in
theorem fclone_any {w : World} {a : Option Addr} {n cap : Nat} {l : List Value} (h : SlR w 41 4 a n cap l) (h1 : ∀ u ∈ l, u.oneCell' = true) (hn2 : n ≤ 1000000000) : Calls Try.prog 27 #[.slice a n cap] w (RetR 41 4 n l w) := by
  obtain ⟨i0, hi, hz0, hz1, hz2⟩ := info_split info_fate
  have hle := h.le
  have hll := h.len
  by_cases h0 : n = 0
  · obtain rfl : l = [] := List.eq_nil_of_length_eq_zero (by omega)
    subst h0
    have HF0 := Lib.hid (fun (a' : Option Addr) (W : World) (hb : Below w.heap.size w W) => show RetR 41 4 0 [] w (.returned (.slice a' 0 0)) W from ⟨a', 0, rfl, SlR.sub0 a', hb, fun b hb => by simp [blk_zero] at hb⟩)
    cases a with
    | none =>
      have he : ∀ w : World, (binOp .eql 61 (.slice none 0 cap) (.slice none 0 0)).run Try.prog w = .ok (.bool true) w := fun _ => rfl
      go_enter Try.func27, Try.ntmps27
      go_wp2
      go_ret
      exact HF0.out _ _ (Below.refl _ _)
    | some x =>
      have he : ∀ w : World, (binOp .eql 61 (.slice (some x) 0 cap) (.slice none 0 0)).run Try.prog w = .ok (.bool false) w := fun _ => rfl
      have HS := Lib.hid (fun W => Src.ofSlice (P := Try.prog) (size := 4) W Try.underlying61 x 0 cap [] (by simp) (by intro j u hu; simp at hu) (by simp))
      go_enter Try.func27, Try.ntmps27
      go_wp2
      go_ret
      exact HF0.out _ _ (bal _)
  · obtain ⟨g, off, rfl, _⟩ := h.cell (by omega)
    have HS := Lib.hid (fun W (hb : Below w.heap.size w W) => (h.later hb).src (P := Try.prog) Try.underlying61 h1)
    clear h h1
    have he : ∀ w : World, (binOp .eql 61 (.slice (some ⟨g, off, none⟩) n cap) (.slice none 0 0)).run Try.prog w = .ok (.bool false) w := fun _ => rfl
    go_enter Try.func27, Try.ntmps27
    go_wp2_with (at_builtin; go_must (refine wpList_append_slr _ rfl (.tmp 5) (.tmp 6) 61 61 rfl 41 i0 (.agg #[.int .i64 0, .int .i64 0, .int .i64 0, .int .i64 0]) 4 32 Try.underlying61 hi hz0 hz1 (by decide) hz2 rfl _ 0 0 [] rfl (SlR.sub0 _) _ rfl n (by omega) l (HS.out _ ((Below.refl _ _).alloc (Nat.le_refl _) _)) (by unfold maxLen; omega) (by omega) ?_); intro a' cap' w3 hrow hkp hat)
    go_ret
    refine ⟨a', cap', by simp, by simpa using hrow, (Below.refl w.heap.size w |>.alloc (Nat.le_refl _) _).trans (hkp.below (by simp [blk_zero]) (by simp)), fun b hb => ?_⟩
    rcases hat b hb with h | h
    · simp [blk_zero] at h
    · simp at h; omega
set_option maxRecDepth 100000 in
set_option maxHeartbeats 1000000 in
theorem nclone_any {w : World} {a : Option Addr} {n cap : Nat} {l : List Value} (h : SlR w 3 1 a n cap l) (h1 : ∀ u ∈ l, u.oneCell' = true) (hn2 : n ≤ 1000000000) : Calls Try.prog 29 #[.slice a n cap] w (RetR 3 1 n l w) := by
  obtain ⟨i0, hi, hz0, hz1, hz2⟩ := info_split info_int
  have hle := h.le
  have hll := h.len
  by_cases h0 : n = 0
  · obtain rfl : l = [] := List.eq_nil_of_length_eq_zero (by omega)
    subst h0
    have HF0 := Lib.hid (fun (a' : Option Addr) (W : World) (hb : Below w.heap.size w W) => show RetR 3 1 0 [] w (.returned (.slice a' 0 0)) W from ⟨a', 0, rfl, SlR.sub0 a', hb, fun b hb => by simp [blk_zero] at hb⟩)
    cases a with
    | none =>
      have he : ∀ w : World, (binOp .eql 62 (.slice none 0 cap) (.slice none 0 0)).run Try.prog w = .ok (.bool true) w := fun _ => rfl
      go_enter Try.func29, Try.ntmps29
      go_wp2
      go_ret
      exact HF0.out _ _ (Below.refl _ _)
    | some x =>
      have he : ∀ w : World, (binOp .eql 62 (.slice (some x) 0 cap) (.slice none 0 0)).run Try.prog w = .ok (.bool false) w := fun _ => rfl
      have HS := Lib.hid (fun W => Src.ofSlice (P := Try.prog) (size := 1) W Try.underlying62 x 0 cap [] (by simp) (by intro j u hu; simp at hu) (by simp))
      go_enter Try.func29, Try.ntmps29
      go_wp2
      go_ret
      exact HF0.out _ _ (bal _)
  · obtain ⟨g, off, rfl, _⟩ := h.cell (by omega)
    have HS := Lib.hid (fun W (hb : Below w.heap.size w W) => (h.later hb).src (P := Try.prog) Try.underlying62 h1)
    clear h h1
    have he : ∀ w : World, (binOp .eql 62 (.slice (some ⟨g, off, none⟩) n cap) (.slice none 0 0)).run Try.prog w = .ok (.bool false) w := fun _ => rfl
    go_enter Try.func29, Try.ntmps29
    go_wp2_with (at_builtin; go_must (refine wpList_append_slr _ rfl (.tmp 5) (.tmp 6) 62 62 rfl 3 i0 (.int .i64 0) 1 8 Try.underlying62 hi hz0 hz1 (by decide) hz2 rfl _ 0 0 [] rfl (SlR.sub0 _) _ rfl n (by omega) l (HS.out _ ((Below.refl _ _).alloc (Nat.le_refl _) _)) (by unfold maxLen; omega) (by omega) ?_); intro a' cap' w3 hrow hkp hat)
    go_ret
    refine ⟨a', cap', by simp, by simpa using hrow, (Below.refl w.heap.size w |>.alloc (Nat.le_refl _) _).trans (hkp.below (by simp [blk_zero]) (by simp)), fun b hb => ?_⟩
    rcases hat b hb with h | h
    · simp [blk_zero] at h
    · simp at h; omega
set_option maxHeartbeats 2000000 in
theorem mclone_any {w : World} {b n : Nat} {D : DataW Value} (h : MapAt w b n D) :
    Calls Try.prog 28 #[.map (some b)] w (fun e w' => ∃ m, e = .returned (.map (some m)) ∧ MapAt w' m n D ∧ Below w.heap.size w w' ∧ w.heap.size ≤ m) := by
  obtain ⟨es, clock, hb, F, hs, hD⟩ := h
  have hq := run_map_nil
  have HF := Lib.hid (show MapAt (w.alloc (.map es clock)) w.heap.size n D ∧ Below w.heap.size w (w.alloc (.map es clock)) from ⟨⟨es, clock, (MapKept.heap_alloc w _).1, F, hs, hD⟩, bal _⟩)
  clear F hs hD
  go_enter Try.func28, Try.ntmps28
  go_wp2
  rw [run_callFunc_extern Try.func38 (by kernel_rfl) (by kernel_rfl) (by kernel_rfl) (e := Extern.MapsClone.clone) (by kernel_rfl), run_maps_clone_sl w 60 hb]
  simp only [Result.andThen]
  rw [Oper.upon_value]
  go_wp2
  rw [run_typeAssert_map_sl _ 60 20 _ _ _ Try.underlying60]
  simp only [Result.andThen]
  rw [Oper.upon_value]
  go_wp2
  go_ret
  exact ⟨_, rfl, HF.out.1, HF.out.2, Nat.le_refl _⟩
abbrev Cs (X : World) (B : Nat) (h : Hm) (x : Dk) : Prop := X.cell? ⟨B, 0, none⟩ = some (.int .i64 x.now) ∧ X.cell? ⟨B, 1, none⟩ = some (.slice h.fa x.l.length h.fc) ∧ X.cell? ⟨B, 2, none⟩ = some (.map (some h.m)) ∧ X.cell? ⟨B, 3, none⟩ = some (.slice h.oa (fly x.l).length h.oc)
def RetCl (x : Dk) (w : World) (e : Ending) (w' : World) : Prop := ∃ C h', e = .returned (.pointer (some ⟨C, 0, none⟩)) ∧ DAt w' C h' x ∧ Below w.heap.size w w' ∧ ∀ b ∈ blks C h', w.heap.size ≤ b
set_option maxRecDepth 100000 in
set_option maxHeartbeats 4000000 in
theorem clone_any {w : World} {B : Nat} {h : Hm} {x : Dk} (H : DAt w B h x) (hn : x.l.length ≤ 1000000) : Calls Try.prog 11 #[.pointer (some ⟨B, 0, none⟩)] w (RetCl x w) := by
  have hfl := fly_len x.l
  have HA := Lib.hid H
  have HCF := Lib.hid (fun X (hb : Below w.heap.size w X) => by
    obtain ⟨⟨n, D, d, _⟩, _⟩ := H.later hb
    exact fclone_any d.fates (ftC_one _) (by omega))
  have HCN := Lib.hid (fun X (hb : Below w.heap.size w X) => by
    obtain ⟨⟨n, D, d, _⟩, _⟩ := H.later hb
    exact nclone_any d.order (ints_one _ _) (by omega))
  obtain ⟨⟨n, D, d, hnx, hf⟩, hraws⟩ := H
  have HCM := Lib.hid (fun X (hb : Below w.heap.size w X) => mclone_any (d.later hb).map)
  unfold RetR at HCF HCN
  have HR := Lib.hid (And.intro hnx (And.intro hf hraws))
  have P0 := HA.out.drew.cs
  have hb0 : Below w.heap.size w w.drew := (Below.refl _ _).drew
  clear d hnx hf hraws hfl
  go_enter Try.func11, Try.ntmps11
  go_wp2_with fail
  go_region_held3 (fun X => Cs X B h x) (first | with_reducible exact P0 | with_reducible exact P1 | with_reducible exact P2 | with_reducible exact P3 | with_reducible exact (HA.out.later (b13.trans ((bal _).mono b13.size))).cs | go_keep)
    (first
    | (go_at_call 27; (with_reducible refine (HCF.out _ hb0).mono ?_); rintro e w1 ⟨fa', fc', rfl, hr1, b1, n1⟩; replace b1 := hb0.trans b1; have P1 := (HA.out.later b1).cs)
    | (go_at_call 28; (with_reducible refine (HCM.out _ b1).mono ?_); rintro e w2 ⟨m', rfl, hm2, b2, n2⟩; have b12 := b1.trans (b2.mono b1.size); have P2 := (HA.out.later b12).cs)
    | (go_at_call 29; (with_reducible refine (HCN.out _ b12).mono ?_); rintro e w3 ⟨oa', oc', rfl, hr3, b3, n3⟩; have b13 := b12.trans (b3.mono b12.size); have P3 := (HA.out.later b13).cs))
  have b4 := bal (w := w3) (.cells #[.int .i64 x.now, .slice fa' x.l.length fc', .map (some m'), .slice oa' (fly x.l).length oc'] 64)
  have x4 := heap_alloc_new w3 (.cells #[.int .i64 x.now, .slice fa' x.l.length fc', .map (some m'), .slice oa' (fly x.l).length oc'] 64)
  have HF := Lib.hid (show RetCl x w (.returned (.pointer (some ⟨w3.heap.size, 0, none⟩))) (w3.alloc (.cells #[.int .i64 x.now, .slice fa' x.l.length fc', .map (some m'), .slice oa' (fly x.l).length oc'] 64)) from by
    have b34 := b3.trans (b4.mono b3.size)
    have b24 := b2.trans (b34.mono b2.size)
    refine ⟨w3.heap.size, ⟨fa', fc', oa', oc', m', h.rv⟩, rfl, ⟨⟨n, D, ⟨x4, hr1.later b24, hr3.later b4, map_block hm2 (fun o ho => (b34.block _ (lt_of_block ho)).trans ho)⟩, HR.out.1, HR.out.2.1⟩, fun i hi => (HR.out.2.2 i hi).later (b13.trans (b4.mono b13.size))⟩, b13.trans (b4.mono b13.size), fun b hb => ?_⟩
    have hz1 := b1.size; have hz2 := b12.size; have hz3 := b13.size
    simp only [List.mem_cons, List.mem_append] at hb
    rcases hb with rfl | rfl | q | q
    · exact hz3
    · omega
    · have := n1 b q; have : w.drew.heap.size = w.heap.size := rfl; omega
    · have := n3 b q; omega)
  clear P0 P1 P2 P3 hr1 n1 hm2 n2 hr3 n3 b1 b2 b3 b12 b13 b4 x4 hb0 HA HCF HCN HCM HR
  go_wp2_with fail
  go_ret
  exact HF.out
/-- what is told of a copy under way -/
def RetTl (x : Dk) (i : Nat) (w : World) (e : Ending) (w' : World) : Prop := ∃ a cap, e = .returned (.agg #[.int .i64 (i : Nat), .int .i64 (cpAt x.l i).f, .int .i64 (cpAt x.l i).a, .slice a (cpAt x.l i).raw.length cap]) ∧ BRow w' a (cpAt x.l i).raw.length cap (cpAt x.l i).raw ∧ Below w.heap.size w w' ∧ ∀ b ∈ blk a cap, w.heap.size ≤ b
abbrev cpZ : Obj := .cells #[.int .i64 0, .int .i64 0, .int .i64 0, .slice none 0 0] 53
set_option maxRecDepth 100000 in
set_option maxHeartbeats 4000000 in
theorem tell_any {w : World} {B : Nat} {h : Hm} {x : Dk} (H : DAt w B h x) (hn : x.l.length ≤ 1000000) (i : Nat) (hi : i ∈ fly x.l) (hr : (cpAt x.l i).raw.length ≤ 1000000) : Calls Try.prog 35 #[.pointer (some ⟨B, 0, none⟩), .int .i64 (i : Nat)] w (RetTl x i w) := by
  unfold RetTl
  have hlt := (mem_fly.1 hi).1
  have b1 := bal (w := w) cpZ
  have x1 := heap_alloc_new w cpZ
  have H1 := H.later b1
  have hF : isF x ((i : Nat) : Int) := ⟨by omega, by simpa using hi⟩
  obtain ⟨g, off, hg, hlc, hcm, k0, k1, k2, k3⟩ := H1.fate hlt
  obtain ⟨c0, c1, c2, c3⟩ := H1.cs
  rw [hg] at c1
  have b2 := bal (w := w.alloc cpZ) (.cells #[.int .i64 (cpAt x.l i).f, .int .i64 (cpAt x.l i).a, .int .i64 (cpAt x.l i).e, .int .i64 (cpAt x.l i).k] 41)
  have x2 := heap_alloc_new (w.alloc cpZ) (.cells #[.int .i64 (cpAt x.l i).f, .int .i64 (cpAt x.l i).a, .int .i64 (cpAt x.l i).e, .int .i64 (cpAt x.l i).k] 41)
  have H2 := H1.later b2
  have x12 := (b2.block _ (lt_of_block x1)).trans x1
  have hb2 := b1.trans (b2.mono b1.size)
  have hsz : (w.alloc cpZ).heap.size = w.heap.size + 1 := by simp
  have HT := Lib.hid (And.intro H2 (And.intro x2 (And.intro x12 hb2)))
  unfold maxLen at hcm
  clear H H1 H2 b1 x1 b2 x2 x12 hb2 hlc hcm
  go_enter Try.func35, Try.ntmps35
  go_upto_region 2 with fail
  rw [hsz] at HT
  generalize hW : (w.alloc cpZ).alloc (.cells #[.int .i64 (cpAt x.l i).f, .int .i64 (cpAt x.l i).a, .int .i64 (cpAt x.l i).e, .int .i64 (cpAt x.l i).k] 41) = W at *
  clear hW c0 c1 c2 c3 k0 k1 k2 k3
  obtain ⟨H2, x2, x12, hb2⟩ := HT.out
  have HCB := Lib.hid (fun X (hb : Below W.heap.size W X) => bclone_any (SlA.of_r ((H2.later hb).raws i hi)) (show (cpAt x.l i).raw.length ≤ 1000000000000 by omega))
  unfold RetB at HCB
  have HBX := Lib.hid (fun X (hb : Below W.heap.size W X) => And.intro (H2.later hb) (And.intro ((hb.block _ (lt_of_block x2)).trans x2) ((hb.block _ (lt_of_block x12)).trans x12)))
  have HS := Lib.hid (fun X (H : DAt X B h x) (hx : X.heap[w.heap.size + 1]? = some (.cells #[.int .i64 (cpAt x.l i).f, .int .i64 (cpAt x.l i).a, .int .i64 (cpAt x.l i).e, .int .i64 (cpAt x.l i).k] 41 (0, 0))) =>
    show (Instr.lookup 60 (.map (some h.m)) (.int .i64 (i : Nat)) false).run Try.prog X = .ok (.slice (h.rv i).1 (cpAt x.l i).raw.length (h.rv i).2) X ∧ X.cell? ⟨B, 2, none⟩ = some (.map (some h.m)) ∧ X.cell? ⟨w.heap.size + 1, 0, none⟩ = some (.int .i64 (cpAt x.l i).f) ∧ X.cell? ⟨w.heap.size + 1, 1, none⟩ = some (.int .i64 (cpAt x.l i).a) from by
      have hl := (H.look ((i : Nat) : Int) (by omega)).2
      rw [tbl_yes hF] at hl
      exact ⟨hl, H.cs.2.2.1, cofr hx 0 _ rfl, cofr hx 1 _ rfl⟩)
  have HPT := Lib.hid (fun X (H : DAt X B h x) (hx : X.heap[w.heap.size + 1]? = some (.cells #[.int .i64 (cpAt x.l i).f, .int .i64 (cpAt x.l i).a, .int .i64 (cpAt x.l i).e, .int .i64 (cpAt x.l i).k] 41 (0, 0))) (hy : X.heap[w.heap.size]? = some (.cells #[.int .i64 0, .int .i64 0, .int .i64 0, .slice none 0 0] 53 (0, 0))) (a' : Option Addr) (cap' : Nat) =>
    show _ from by
      have hk : Kept [w.heap.size] X ((((X.setCell ⟨w.heap.size, 0, none⟩ (.int .i64 (i : Nat))).setCell ⟨w.heap.size, 1, none⟩ (.int .i64 (cpAt x.l i).f)).setCell ⟨w.heap.size, 2, none⟩ (.int .i64 (cpAt x.l i).a)).setCell ⟨w.heap.size, 3, none⟩ (.slice a' (cpAt x.l i).raw.length cap')) := ((((Kept.refl [w.heap.size] X).setCell (.inl (by simp)) _).setCell (.inl (by simp)) _).setCell (.inl (by simp)) _).setCell (.inl (by simp)) _
      exact HS.out _ (H.keep hk (fun b hb e => by
        simp at e; subst e
        obtain ⟨⟨_, _, d, _⟩, _⟩ := H
        exact d.typ hy (by decide) (by decide) (by decide) hb) (fun b hb cs e => by
        simp at hb; subst hb
        exact typ_ne hy e (by decide) rfl)) (hk.heap (by simp) hx))
  have HBW := Lib.hid hb2
  clear H2 x2 x12 hb2 HT hF hi hr hlt
  generalize hgl : (cpAt x.l i).raw = l at *
  generalize hgf : (cpAt x.l i).f = f at *
  generalize hga : (cpAt x.l i).a = a at *
  have HEQ := Lib.hid (And.intro hgl (And.intro hgf hga))
  clear hgl hgf hga
  generalize (cpAt x.l i).e = fe at *
  generalize (cpAt x.l i).k = fk at *
  generalize h.rv i = rr at *
  obtain ⟨ra, rc⟩ := rr
  dsimp only at *
  have hb0 : Below W.heap.size W W.drew := (Below.refl _ _).drew
  have P0 := HS.out _ (HBX.out _ hb0).1 (HBX.out _ hb0).2.1
  go_wp2_with fail
  go_region_held3 (fun X => (Instr.lookup 60 (.map (some h.m)) (.int .i64 (i : Nat)) false).run Try.prog X = .ok (.slice ra l.length rc) X ∧ X.cell? ⟨B, 2, none⟩ = some (.map (some h.m)) ∧ X.cell? ⟨w.heap.size + 1, 0, none⟩ = some (.int .i64 f) ∧ X.cell? ⟨w.heap.size + 1, 1, none⟩ = some (.int .i64 a)) (first | with_reducible exact P0 | with_reducible exact P4 | with_reducible exact P5 | go_keep)
    ((go_at_call 32; go_must (with_reducible refine (HCB.out _ hb0).mono ?_); rintro e w4 ⟨a', cap', rfl, hr4, hb4, hn4⟩; have hb5 := hb0.trans hb4; have HE := Lib.hid (And.intro hr4 (And.intro hb5 hn4)); clear hr4 hb4 hn4; obtain ⟨X1, X2, y1⟩ := HBX.out _ hb5; have P4 := HS.out _ X1 X2; have P5 := HPT.out _ X1 X2 y1 a' cap'; have z0 := cofr y1 0 _ rfl; have z1 := cofr y1 1 _ rfl; have z2 := cofr y1 2 _ rfl; have z3 := cofr y1 3 _ rfl; have f0 := fofr y1 0; have f1 := fofr y1 1; have f2 := fofr y1 2; have f3 := fofr y1 3))
  obtain ⟨hr4, hb6, hn4⟩ := HE.out
  have hq := put4_box y1 (.int .i64 (i : Nat)) (.int .i64 f) (.int .i64 a) (.slice a' l.length cap')
  have hbq := put4_below (w := w) (HBW.out.trans (hb6.mono HBW.out.size)) (Nat.le_refl _) (.int .i64 (i : Nat)) (.int .i64 f) (.int .i64 a) (.slice a' l.length cap')
  have hk : BRow ((((w4.setCell ⟨w.heap.size, 0, none⟩ (.int .i64 (i : Nat))).setCell ⟨w.heap.size, 1, none⟩ (.int .i64 f)).setCell ⟨w.heap.size, 2, none⟩ (.int .i64 a)).setCell ⟨w.heap.size, 3, none⟩ (.slice a' l.length cap')) a' l.length cap' l :=
    hr4.keep (((((Kept.refl [w.heap.size] w4).setCell (.inl (by simp)) _).setCell (.inl (by simp)) _).setCell (.inl (by simp)) _).setCell (.inl (by simp)) _) (fun b hb e => by
      simp at e; subst e
      obtain ⟨_, cs, hc⟩ := hr4.lt _ hb
      exact typ_ne hc y1 (by decide) rfl)
  have r0 := cofr hq 0 _ rfl
  have r1 := cofr hq 1 _ rfl
  have r2 := cofr hq 2 _ rfl
  have r3 := cofr hq 3 _ rfl
  have HF := Lib.hid (And.intro hk (And.intro hbq (fun b (hb : b ∈ blk a' cap') => Nat.le_trans HBW.out.size (hn4 b hb))))
  clear hr4 hb6 hn4 HE hq hbq hk z0 z1 z2 z3 f0 f1 f2 f3 y1 X1 X2 P0 P4 P5 HCB HBX HS HPT
  go_wp2_with fail
  exact bodyPost_ret (v := .agg #[.int .i64 (i : Nat), .int .i64 f, .int .i64 a, .slice a' l.length cap']) (by simp [results, Try.results35, go_sem, r0, r1, r2, r3]) rfl (by
    rw [HEQ.out.1, HEQ.out.2.1, HEQ.out.2.2]
    exact ⟨a', cap', rfl, HF.out.1, HF.out.2.1, HF.out.2.2⟩)
/-- the i-th one -/
def nthI (x : Dk) (n : Int) : Prop := 0 ≤ n ∧ n < ((fly x.l).length : Int)
set_option maxRecDepth 100000 in
set_option maxHeartbeats 2000000 in
theorem nth_yes {w : World} {B : Nat} {h : Hm} {x : Dk} (H : DAt w B h x) (hn : x.l.length ≤ 1000000) (hr : ∀ i ∈ fly x.l, (cpAt x.l i).raw.length ≤ 1000000) (j : Nat) (hj : j < (fly x.l).length) :
    Calls Try.prog 20 #[.pointer (some ⟨B, 0, none⟩), .int .i64 (j : Nat)] w fun e w' => ∃ a cap, e = .returned (.tuple #[.agg #[.int .i64 ((fly x.l)[j] : Nat), .int .i64 (cpAt x.l (fly x.l)[j]).f, .int .i64 (cpAt x.l (fly x.l)[j]).a, .slice a (cpAt x.l (fly x.l)[j]).raw.length cap], .bool true]) ∧ BRow w' a (cpAt x.l (fly x.l)[j]).raw.length cap (cpAt x.l (fly x.l)[j]).raw ∧ Below w.heap.size w w' := by
  have b1 := bal (w := w) cpZ
  have x1 := heap_alloc_new w cpZ
  have HL := Lib.hid (len_q (H.later b1))
  have HA := Lib.hid (fun q => (H.later b1).drewN q)
  have HX := Lib.hid (fun q => show ((w.alloc cpZ).drewN q).heap[w.heap.size]? = some (.cells #[.int .i64 0, .int .i64 0, .int .i64 0, .slice none 0 0] 53 (0, 0)) from x1)
  have HB := Lib.hid (fun q => bdn b1 q)
  have HCI := Lib.hid (fun q => show ∃ g off, h.oa = some ⟨g, off, none⟩ ∧ (fly x.l).length ≤ h.oc ∧ h.oc ≤ maxLen ∧ ((w.alloc cpZ).drewN q).cell? ⟨g, off + j, none⟩ = some (.int .i64 ((fly x.l)[j] : Nat)) from by
    obtain ⟨g, off, h1, h2, h3, h4⟩ := ((H.later b1).drewN q).num hj
    exact ⟨g, off, h1, h2, h3, h4 j hj⟩)
  have hmem : (fly x.l)[j] ∈ fly x.l := List.getElem_mem hj
  have HT := Lib.hid (fun q => tell_any ((H.later b1).drewN q) hn (fly x.l)[j] hmem (hr _ hmem))
  unfold RetTl at HT
  have hj2 : ¬ (j : Int) < 0 := by omega
  have hj3 : ¬ ((fly x.l).length : Int) ≤ (j : Int) := by omega
  have hd0 := decide_eq_false hj2
  have hd1 := decide_eq_false hj3
  clear H b1 x1 hr hmem
  generalize hgi : (fly x.l)[j] = i at *
  clear hgi
  have HC2 := Lib.hid (fun q => show ∃ g off, h.oa = some ⟨g, off, none⟩ ∧ (fly x.l).length ≤ h.oc ∧ h.oc ≤ maxLen ∧ ((w.alloc cpZ).drewN q).cell? ⟨g, off + j, none⟩ = some (.int .i64 (i : Nat)) from HCI.out q)
  go_enter Try.func20, Try.ntmps20
  go_wp2_with (first
    | (go_at_call 17; go_must (with_reducible refine HL.out.at.mono ?_); rintro e w1 ⟨rfl, q, rfl⟩; obtain ⟨g, off, hoa, hol, hom, cj⟩ := HC2.out q; have c3 := (HA.out q).cs.2.2.2; rw [hoa] at c3; unfold maxLen at hom)
    | (go_at_call 35; go_must (with_reducible refine (HT.out q).mono ?_); rintro e w2 ⟨a', cap', rfl, hr2, hb2, hn2⟩; have hx2 := (hb2.block _ (lt_of_block (HX.out q))).trans (HX.out q); have z0 := cofr hx2 0 _ rfl; have z1 := cofr hx2 1 _ rfl; have z2 := cofr hx2 2 _ rfl; have z3 := cofr hx2 3 _ rfl; have f0 := fofr hx2 0; have f1 := fofr hx2 1; have f2 := fofr hx2 2; have f3 := fofr hx2 3))
  have hq := put4_box hx2 (.int .i64 (i : Nat)) (.int .i64 (cpAt x.l i).f) (.int .i64 (cpAt x.l i).a) (.slice a' (cpAt x.l i).raw.length cap')
  have hbq := put4_below (w := w) ((HB.out q).trans (hb2.mono (HB.out q).size)) (Nat.le_refl _) (.int .i64 (i : Nat)) (.int .i64 (cpAt x.l i).f) (.int .i64 (cpAt x.l i).a) (.slice a' (cpAt x.l i).raw.length cap')
  have hk := hr2.keep (((((Kept.refl [w.heap.size] w2).setCell (p := ⟨w.heap.size, 0, none⟩) (.inl (by simp)) (.int .i64 (i : Nat))).setCell (p := ⟨w.heap.size, 1, none⟩) (.inl (by simp)) (.int .i64 (cpAt x.l i).f)).setCell (p := ⟨w.heap.size, 2, none⟩) (.inl (by simp)) (.int .i64 (cpAt x.l i).a)).setCell (p := ⟨w.heap.size, 3, none⟩) (.inl (by simp)) (.slice a' (cpAt x.l i).raw.length cap')) (fun b hb e => by
      simp at e; subst e
      obtain ⟨_, cs, hc⟩ := hr2.lt _ hb
      exact typ_ne hc hx2 (by decide) rfl)
  have r0 := cofr hq 0 _ rfl
  have r1 := cofr hq 1 _ rfl
  have r2 := cofr hq 2 _ rfl
  have r3 := cofr hq 3 _ rfl
  exact bodyPost_ret (v := .tuple #[.agg #[.int .i64 (i : Nat), .int .i64 (cpAt x.l i).f, .int .i64 (cpAt x.l i).a, .slice a' (cpAt x.l i).raw.length cap'], .bool true]) (by simp [results, Try.results20, go_sem, r0, r1, r2, r3]) rfl ⟨a', cap', rfl, hk, hbq⟩
set_option maxHeartbeats 2000000 in
theorem nth_no {w : World} {B : Nat} {h : Hm} {x : Dk} (H : DAt w B h x) :
    Calls Try.prog 20 #[.pointer (some ⟨B, 0, none⟩), .int .i64 ((fly x.l).length : Nat)] w fun e w' => e = .returned (.tuple #[.agg #[.int .i64 0, .int .i64 0, .int .i64 0, .slice none 0 0], .bool false]) ∧ Below w.heap.size w w' := by
  have b1 := bal (w := w) cpZ
  have x1 := heap_alloc_new w cpZ
  have HL := Lib.hid (len_q (H.later b1))
  have HX := Lib.hid (fun q => show ((w.alloc cpZ).drewN q).heap[w.heap.size]? = some (.cells #[.int .i64 0, .int .i64 0, .int .i64 0, .slice none 0 0] 53 (0, 0)) from x1)
  have HB := Lib.hid (fun q => bdn b1 q)
  have hj2 : ¬ ((fly x.l).length : Int) < 0 := by omega
  have hd0 := decide_eq_false hj2
  clear H b1 x1
  generalize (fly x.l).length = n at *
  go_enter Try.func20, Try.ntmps20
  go_wp2_with (go_at_call 17; go_must (with_reducible refine HL.out.at.mono ?_); rintro e w1 ⟨rfl, q, rfl⟩; have hx2 := HX.out q; have z0 := cofr hx2 0 _ rfl; have z1 := cofr hx2 1 _ rfl; have z2 := cofr hx2 2 _ rfl; have z3 := cofr hx2 3 _ rfl; have f0 := fofr hx2 0; have f1 := fofr hx2 1; have f2 := fofr hx2 2; have f3 := fofr hx2 3)
  have hq := put4_box hx2 (.int .i64 0) (.int .i64 0) (.int .i64 0) (.slice none 0 0)
  have hbq := put4_below (w := w) (HB.out q) (Nat.le_refl _) (.int .i64 0) (.int .i64 0) (.int .i64 0) (.slice none 0 0)
  have r0 := cofr hq 0 _ rfl
  have r1 := cofr hq 1 _ rfl
  have r2 := cofr hq 2 _ rfl
  have r3 := cofr hq 3 _ rfl
  exact bodyPost_ret (v := .tuple #[.agg #[.int .i64 0, .int .i64 0, .int .i64 0, .slice none 0 0], .bool false]) (by simp [results, Try.results20, go_sem, r0, r1, r2, r3]) rfl ⟨rfl, hbq⟩
end Go.Proofs.Ytahegkbdefhlpaa.dc
/-!   A duct of one's own; the fixed calls of layer 25's law.
-/
namespace Go.Proofs.Ytahegkbdefhlpaa.dc
open Go.RowKit Go.Maps aid mem
attribute [local go_sem ↓] Go.wp_at_zero Go.wp_at_succ
set_option linter.unusedVariables false
set_option linter.unusedSimpArgs false

structure DS (w : World) (B : Nat) (h : Hm) (x : Dk) (W : World) : Prop where
  d : DAt W B h x
  below : Below w.heap.size w W
  own : ∀ b ∈ blks B h, w.heap.size ≤ b
section
variable {w W W' : World} {B : Nat} {h : Hm} {x x' : Dk} {v : Value} {e : Ending} (S : DS w B h x W)
include S
theorem DS.later (hb : Below W.heap.size W W') : DS w B h x W' := ⟨S.d.later hb, S.below.trans (hb.mono S.below.size), S.own⟩
theorem DS.wrote (r : RetS v B h x' W e W') : e = .returned v ∧ ∃ h', DS w B h' x' W' := by
  obtain ⟨rfl, h', d, k, b⟩ := r
  exact ⟨rfl, h', d, S.below.trans (k.below S.own S.below.size), fun c hc => by
    rcases b c hc with q | q
    · exact S.own c q
    · exact Nat.le_trans S.below.size q⟩
theorem ds_put (hn : x.l.length ≤ 1000000) {a : Option Addr} {n cap : Nat} {l : List Int} (hl : SlA .u8 W a n cap l) (now : Int) :
    Calls Try.prog 12 #[.pointer (some ⟨B, 0, none⟩), .slice a n cap, .int .i64 now] W fun e w' => e = .returned (.tuple #[.int .i64 (putN x n now), .int .i64 (putE x n now)]) ∧ ∃ h', DS w B h' (putX x l now) w' :=
  (put_any S.d hn hl now).mono fun e w' q => S.wrote q
theorem ds_double (hn : x.l.length ≤ 1000000) (id now : Int) (hi : -9223372036854775808 ≤ id ∧ id ≤ 9223372036854775807) :
    Calls Try.prog 19 #[.pointer (some ⟨B, 0, none⟩), .int .i64 id, .int .i64 now] W fun e w' => e = .returned (.tuple #[.int .i64 (dblN x id now), .int .i64 (dblE x id now)]) ∧ ∃ h', DS w B h' (dblX x id now) w' :=
  (double_any S.d hn id now hi).mono fun e w' q => S.wrote q
theorem ds_take (hn : x.l.length ≤ 1000000) (id now : Int) (hi : -9223372036854775808 ≤ id ∧ id ≤ 9223372036854775807) (hr : ∀ i ∈ fly x.l, (cpAt x.l i).raw.length ≤ 1000000) :
    Calls Try.prog 15 #[.pointer (some ⟨B, 0, none⟩), .int .i64 id, .int .i64 now] W fun e w' => ∃ a cap, e = .returned (.tuple #[.slice a (takL x id now).length cap, .int .i64 (whichE x id now)]) ∧ SlA .u8 w' a (takL x id now).length cap (takL x id now) ∧ ∃ h', DS w B h' (endX x id now 1) w' :=
  (take_any S.d hn id now hi hr).mono fun e w' ⟨a, cap, q1, q2⟩ => ⟨a, cap, (S.wrote q2).1, SlA.of_r q1, (S.wrote q2).2⟩
theorem ds_drop (hn : x.l.length ≤ 1000000) (id now : Int) (hi : -9223372036854775808 ≤ id ∧ id ≤ 9223372036854775807) :
    Calls Try.prog 14 #[.pointer (some ⟨B, 0, none⟩), .int .i64 id, .int .i64 now] W fun e w' => e = .returned (.int .i64 (whichE x id now)) ∧ ∃ h', DS w B h' (endX x id now 2) w' :=
  (drop_any S.d hn id now hi).mono fun e w' q => S.wrote q
theorem ds_fate (hn : x.l.length ≤ 1000000) (id : Int) :
    Calls Try.prog 13 #[.pointer (some ⟨B, 0, none⟩), .int .i64 id] W fun e w' => e = .returned (.tuple #[ftV (ftI x id), .bool (decide (fdI x id))]) ∧ DS w B h x w' :=
  (fate_any S.d id hn).mono fun e w' q => ⟨q.1, S.later q.2⟩
end
theorem ds_new {w0 w : World} (hb : Below w0.heap.size w0 w) : Calls Try.prog 8 #[] w fun e w' => ∃ B h, e = .returned (.pointer (some ⟨B, 0, none⟩)) ∧ DS w0 B h ⟨0, []⟩ w' :=
  (new_any w).mono fun e w' ⟨B, h, q1, q2, q3, q4⟩ => ⟨B, h, q1, q2, hb.trans (q3.mono hb.size), fun b hb' => Nat.le_trans hb.size (q4 b hb')⟩
/-- the ducts of the fixed calls -/
def k1 : Dk := ⟨5, [⟨0, 5, 0, 0, [1]⟩]⟩
def k2 : Dk := ⟨5, [⟨0, 5, 0, 0, [1]⟩, ⟨0, 5, 0, 0, [1]⟩]⟩
def k3 : Dk := ⟨9, [⟨0, 5, 0, 0, [1]⟩, ⟨0, 5, 9, 1, [1]⟩]⟩
theorem k1_ok : putX ⟨0, []⟩ [1] 5 = k1 ∧ putN ⟨0, []⟩ 1 5 = 0 ∧ putE ⟨0, []⟩ 1 5 = 0 := ⟨rfl, rfl, rfl⟩
theorem k2_ok : dblX k1 0 5 = k2 ∧ dblN k1 0 5 = 1 ∧ dblE k1 0 5 = 0 := ⟨rfl, rfl, rfl⟩
theorem k3_ok : endX k2 1 9 1 = k3 ∧ takL k2 1 9 = [1] ∧ whichE k2 1 9 = 0 := ⟨rfl, rfl, rfl⟩
theorem k4_ok : ftI k3 1 = ⟨0, 5, 9, 1, [1]⟩ ∧ decide (fdI k3 1) = true ∧ whichE k3 1 9 = 10 := ⟨rfl, rfl, rfl⟩
theorem eq_k (w : World) : (binOp .eql 41 (.agg #[.int .i64 0, .int .i64 5, .int .i64 9, .int .i64 1]) (.agg #[.int .i64 0, .int .i64 5, .int .i64 9, .int .i64 1])).run Try.prog w = .ok (.bool true) w := by kernel_rfl
set_option maxRecDepth 100000 in
set_option maxHeartbeats 2000000 in
theorem known_any (w : World) : Calls Try.prog 7 #[] w fun x w' => x = .returned (.bool true) ∧ Below w.heap.size w w' := by
  have HN := Lib.hid (show Calls Try.prog 8 #[] w fun e w' => ∃ B h, e = .returned (.pointer (some ⟨B, 0, none⟩)) ∧ DS w B h ⟨0, []⟩ w' from ds_new (Below.refl _ _))
  have HP := Lib.hid (fun (B : Nat) (h : Hm) W (S : DS w B h ⟨0, []⟩ W) => show Calls Try.prog 12 #[.pointer (some ⟨B, 0, none⟩), .slice (some ⟨W.heap.size, 0, none⟩) 1 1, .int .i64 5] (W.alloc (.cells #[.int .u8 1] 5)) fun e w' => e = .returned (.tuple #[.int .i64 0, .int .i64 0]) ∧ ∃ h', DS w B h' k1 w' from
    ds_put (S.later (bal _)) (by decide) (l := [1]) (sl_new .u8 5 W [1] (by decide)) 5)
  have HD := Lib.hid (fun (B : Nat) (h : Hm) W (S : DS w B h k1 W) => show Calls Try.prog 19 #[.pointer (some ⟨B, 0, none⟩), .int .i64 0, .int .i64 5] W fun e w' => e = .returned (.tuple #[.int .i64 1, .int .i64 0]) ∧ ∃ h', DS w B h' k2 w' from
    ds_double S (by decide) 0 5 (by decide))
  have HT := Lib.hid (fun (B : Nat) (h : Hm) W (S : DS w B h k2 W) => show Calls Try.prog 15 #[.pointer (some ⟨B, 0, none⟩), .int .i64 1, .int .i64 9] W fun e w' => ∃ a cap, e = .returned (.tuple #[.slice a 1 cap, .int .i64 0]) ∧ SlA .u8 w' a 1 cap [1] ∧ ∃ h', DS w B h' k3 w' from
    ds_take S (by decide) 1 9 (by decide) (by decide))
  have HF := Lib.hid (fun (B : Nat) (h : Hm) W (S : DS w B h k3 W) => show Calls Try.prog 13 #[.pointer (some ⟨B, 0, none⟩), .int .i64 1] W fun e w' => e = .returned (.tuple #[.agg #[.int .i64 0, .int .i64 5, .int .i64 9, .int .i64 1], .bool true]) ∧ DS w B h k3 w' from
    ds_fate S (by decide) 1)
  have HR := Lib.hid (fun (B : Nat) (h : Hm) W (S : DS w B h k3 W) => show Calls Try.prog 14 #[.pointer (some ⟨B, 0, none⟩), .int .i64 1, .int .i64 9] W fun e w' => e = .returned (.int .i64 10) ∧ ∃ h', DS w B h' (endX k3 1 9 2) w' from
    ds_drop S (by decide) 1 9 (by decide))
  have hq := eq_k
  go_enter Try.func7, Try.ntmps7
  go_upto_region 6 with (first
    | (go_at_call 8; (with_reducible refine HN.out.mono ?_); rintro e w1 ⟨B, h, rfl, S⟩)
    | (go_at_call 12; go_must (with_reducible refine (HP.out B h _ S).mono ?_); clear S; rintro e w2 ⟨rfl, h2, S⟩)
    | (go_at_call 19; go_must (with_reducible refine (HD.out B h2 _ S).mono ?_); clear S; rintro e w3 ⟨rfl, h3, S⟩)
    | (go_at_call 15; go_must (with_reducible refine (HT.out B h3 _ S).mono ?_); clear S; rintro e w4 ⟨a4, c4, rfl, _, h4, S⟩)
    | (go_at_call 13; go_must (with_reducible refine (HF.out B h4 _ S).mono ?_); clear S; rintro e w5 ⟨rfl, S⟩))
  have bx := bal (w := w5) (.cells #[.int .i64 0, .int .i64 5, .int .i64 9, .int .i64 1] 41)
  replace S := S.later bx
  have hx := heap_alloc_new w5 (.cells #[.int .i64 0, .int .i64 5, .int .i64 9, .int .i64 1] 41)
  have e0 := cofr hx 0 _ rfl
  have e1 := cofr hx 1 _ rfl
  have e2 := cofr hx 2 _ rfl
  have e3 := cofr hx 3 _ rfl
  clear bx hx
  go_wp2_with (go_at_call 14; go_must (with_reducible refine (HR.out B h4 _ S).mono ?_); clear S; rintro e w6 ⟨rfl, h6, S⟩)
  go_ret
  exact ⟨rfl, S.below⟩
theorem known_b {w0 w : World} (hb : Below w0.heap.size w0 w) : Calls Try.prog 7 #[] w fun x w' => x = .returned (.bool true) ∧ Below w0.heap.size w0 w' :=
  (known_any w).mono fun x w' ⟨h1, h2⟩ => ⟨h1, hb.trans (h2.mono hb.size)⟩
end Go.Proofs.Ytahegkbdefhlpaa.dc
/-!   Contracts of package octet: a writer that is written to by nobody else.
-/
namespace Go.Proofs.Ytahegkbdefhlpaa.oc
open Go.RowKit aid mem
set_option linter.unusedVariables false

theorem info5 : (Try.prog.info? 5).map (fun i => (i.zero, i.size, i.bytes)) = some (some (.int .u8 0), 1, 1) := by kernel_rfl

/-- a row of bytes of one's own is answered, in new memory -/
def RetRow (n : Nat) (l : List Int) (w : World) (e : Ending) (w' : World) : Prop :=
  ∃ v, e = .returned v ∧ w'.ownsRow w.heap.size 5 1 v n (ints .u8 l) ∧ Below w.heap.size w w'

/-! ### A writer -/
/-- at block p: a pointer to what is written, and its length; S: the blocks behind it -/
structure Wr (w : World) (p : Nat) (S : List Nat) (l : List Int) : Prop where
  f0 : w.frozen? ⟨p, 0, none⟩ = false
  f1 : w.frozen? ⟨p, 1, none⟩ = false
  c1 : w.cell? ⟨p, 1, none⟩ = some (.int .i64 l.length)
  small : l.length ≤ 140737488355328
  rest : (w.cell? ⟨p, 0, none⟩ = some (.pointer none) ∧ l = [] ∧ S = []) ∨
    ∃ sb v, w.cell? ⟨p, 0, none⟩ = some (.pointer (some ⟨sb, 0, none⟩)) ∧ w.cell? ⟨sb, 0, none⟩ = some v ∧ w.frozen? ⟨sb, 0, none⟩ = false ∧
      w.ownsRow 0 5 1 v l.length (ints .u8 l) ∧ sb ≠ p ∧ (∀ g, v.ownBlock = some g → g ≠ p ∧ g ≠ sb) ∧ S = sb :: v.ownBlock.toList

theorem Wr.keep {w w' : World} {p : Nat} {S S' : List Nat} {l : List Int} (h : Wr w p S l) (hk : Kept S' w w') (hp : p ∉ S') (hd : ∀ k ∈ S, k ∉ S') : Wr w' p S l := by
  rcases h.rest with ⟨h0, hl, hS⟩ | ⟨sb, v, h0, hs, hf, hown, hne, hg, hS⟩
  · exact ⟨(hk.frozen (p := ⟨p, 0, none⟩) hp h0).trans h.f0, (hk.frozen (p := ⟨p, 1, none⟩) hp h.c1).trans h.f1, hk.cell (p := ⟨p, 1, none⟩) hp h.c1, h.small, .inl ⟨hk.cell (p := ⟨p, 0, none⟩) hp h0, hl, hS⟩⟩
  · have hsb : sb ∉ S' := hd sb (by rw [hS]; simp)
    refine ⟨(hk.frozen (p := ⟨p, 0, none⟩) hp h0).trans h.f0, (hk.frozen (p := ⟨p, 1, none⟩) hp h.c1).trans h.f1, hk.cell (p := ⟨p, 1, none⟩) hp h.c1, h.small, .inr ⟨sb, v, hk.cell (p := ⟨p, 0, none⟩) hp h0, hk.cell (p := ⟨sb, 0, none⟩) hsb hs, (hk.frozen (p := ⟨sb, 0, none⟩) hsb hs).trans hf, hk.own ?_ hown, hne, hg, hS⟩⟩
    intro k hk'
    exact hd k (by rw [hS]; simp [hk'])

/-- the world is as it was, but for draws -/
def RetQ (v : Value) (w : World) (e : Ending) (w' : World) : Prop := e = .returned v ∧ ∃ n, w' = w.drewN n

/-- what is written behind -/
def WrPost (p : Nat) (S : List Nat) (l : List Int) (w : World) (e : Ending) (w' : World) : Prop :=
  e = .returned (.tuple #[]) ∧ ∃ S', Wr w' p S' l ∧ Kept (p :: S) w w' ∧ ∀ k ∈ S', k ∈ S ∨ w.heap.size ≤ k

/-- what is left behind a put: the store at sb, its row the old one or a new one -/
def PutPost (p sb : Nat) (ob : Option Nat) (l : List Int) (w : World) (e : Ending) (w' : World) : Prop :=
  e = .returned (.tuple #[]) ∧ ∃ a cap, w'.cell? ⟨p, 0, none⟩ = some (.pointer (some ⟨sb, 0, none⟩)) ∧ w'.cell? ⟨p, 1, none⟩ = some (.int .i64 l.length) ∧ w'.cell? ⟨sb, 0, none⟩ = some (.slice a l.length cap) ∧
    w'.ownsRow 0 5 1 (.slice a l.length cap) l.length (ints .u8 l) ∧ (Value.ownBlock (.slice a l.length cap) = ob ∨ ∃ g, Value.ownBlock (.slice a l.length cap) = some g ∧ w.heap.size ≤ g) ∧ (∀ g, Value.ownBlock (.slice a l.length cap) = some g → g ≠ p ∧ g ≠ sb) ∧ Kept (p :: sb :: ob.toList) w w' ∧ w'.frozen? ⟨p, 0, none⟩ = false ∧ w'.frozen? ⟨p, 1, none⟩ = false ∧ w'.frozen? ⟨sb, 0, none⟩ = false

theorem put_end (p sb : Nat) (ob : Option Nat) (l lb : List Int) (n m cap3 : Nat) (a0 : Option Addr) (cap0 : Nat) (a3 : Option Addr) (w w1 w3 : World) (hne : sb ≠ p) (hk1 : Kept [p] w w1) (hll : l.length = n) (hlb : lb.length = m)
    (hlp : p < w1.heap.size) (hls : sb < w1.heap.size) (hgp : some p ≠ ob) (hgs : some sb ≠ ob) (hgr : w1.drew.grownBy w3 ob)
    (hown3 : w3.ownsRow 0 5 1 (.slice a3 (n + m) cap3) (n + m) (ints .u8 l ++ ints .u8 lb))
    (hat3 : Value.ownBlock (.slice a3 (n + m) cap3) = ob ∨ Value.ownBlock (.slice a3 (n + m) cap3) = some w1.drew.heap.size)
    (c0 : w3.cell? ⟨p, 0, none⟩ = some (.pointer (some ⟨sb, 0, none⟩))) (c1 : w3.cell? ⟨p, 1, none⟩ = some (.int .i64 n)) (cs : w3.cell? ⟨sb, 0, none⟩ = some (.slice a0 n cap0))
    (d0 : w3.frozen? ⟨p, 0, none⟩ = false) (d1 : w3.frozen? ⟨p, 1, none⟩ = false) (ds : w3.frozen? ⟨sb, 0, none⟩ = false) :
    PutPost p sb ob (l ++ lb) w (.returned (.tuple #[])) ((w3.setCell ⟨sb, 0, none⟩ (.slice a3 (n + m) cap3)).setCell ⟨p, 1, none⟩ (.int .i64 (n + m))) := by
  have hlen : (l ++ lb).length = n + m := by simp [hll, hlb]
  have hpb : Value.ownBlock (.slice a3 (n + m) cap3) ≠ some p := by
    rcases hat3 with h | h <;> rw [h]
    · exact fun e => hgp e.symm
    · intro e; injection e with e; simp at e; omega
  have hsb : Value.ownBlock (.slice a3 (n + m) cap3) ≠ some sb := by
    rcases hat3 with h | h <;> rw [h]
    · exact fun e => hgs e.symm
    · intro e; injection e with e; simp at e; omega
  unfold PutPost
  rw [hlen]
  refine ⟨rfl, a3, cap3, ?_, ?_, ?_, ?_, ?_, fun g hg => ⟨fun e => hpb (by rw [hg, e]), fun e => hsb (by rw [hg, e])⟩, ?_, by simpa using d0, by simpa using d1, by simpa using ds⟩
  · exact (set_other (by simp)).trans ((set_other (by simp)).trans c0)
  · have : (w3.setCell ⟨sb, 0, none⟩ (.slice a3 (n + m) cap3)).cell? ⟨p, 1, none⟩ = some (.int .i64 n) := (set_other (by simp)).trans c1
    rw [set_same this]
    simp
  · exact (set_other (by simp)).trans (set_same cs)
  · rw [ints_append]
    exact ownsRow_setCell_other (ownsRow_setCell_other hown3 hsb _) hpb _
  · rcases hat3 with h | h
    · exact .inl h
    · exact .inr ⟨_, h, by have := hk1.size; simpa using this⟩
  · refine ((((hk1.mono (by simp)).drew).grown hgr ?_).setCell (.inl (by simp)) _).setCell (.inl (by simp)) _
    intro k hk
    exact .inl (by simp [hk])

def PutZ (p : Nat) (lb : List Int) (w : World) (e : Ending) (w' : World) : Prop := ∃ sb, w.heap.size ≤ sb ∧ PutPost p sb none lb w e w'

end Go.Proofs.Ytahegkbdefhlpaa.oc
/-!   Contracts of package octet: a writer's calls.
-/
namespace Go.Proofs.Ytahegkbdefhlpaa.oc
open Go.RowKit aid mem
set_option linter.unusedVariables false

end Go.Proofs.Ytahegkbdefhlpaa.oc
/-!   Contracts of the reference of layer 2: Same, Number.
-/
namespace Go.Proofs.Ytahegkbdefhlpaa.oc
open Go.RowKit aid mem
set_option linter.unusedVariables false

theorem same_true (a b : Option Addr) (n c1 c2 : Nat) (l : List Int) (w : World) (h1 : SlA .u8 w a n c1 l) (h2 : SlA .u8 w b n c2 l) :
    Calls Try.prog 16 #[.slice a n c1, .slice b n c2] w (RetQ (.bool true) w) := by
  have hm := h1.most
  have hle := h1.le
  have hle2 := h2.le
  unfold maxLen at hm
  by_cases hn : n = 0
  · subst hn
    go_enter Try.func16, Try.ntmps16
    go_wp2
    go_loop [5] (fun i => i = .int .i64 0) (fun _ => 0)
    case atStart => rfl
    case round =>
      obtain rfl := hrel
      go_wp2
      go_ret
      exact ⟨rfl, 0, rfl⟩
  · obtain ⟨b1, o1, rfl, hc1⟩ := h1.cells (by omega)
    obtain ⟨b2, o2, rfl, hc2⟩ := h2.cells (by omega)
    have H1 := Lib.hid hc1
    have H2 := Lib.hid hc2
    clear hc1 hc2
    go_enter Try.func16, Try.ntmps16
    go_wp2
    go_loopw [5] (fun i wr => ∃ k : Nat, k ≤ n ∧ i = .int .i64 k ∧ ∃ q, wr = w.drewN q) (fun i _ => n - (intOf i).toNat)
    case atStart => exact ⟨0, Nat.zero_le _, rfl, 0, rfl⟩
    case round =>
      obtain ⟨k, hk, rfl, q, rfl⟩ := hrel
      have hk0 : (0 : Int) ≤ (k : Int) := by omega
      by_cases hlt : k < n
      · have g1 := H1.out k hlt
        have g2 := H2.out k hlt
        have hk1 : (k : Int) < (n : Int) := by omega
        generalize l.getD k 0 = x at *
        go_wp2_with fail
        go_quiet (fail)
        go_wp2
        go_roundw
        case rel => exact ⟨k + 1, by omega, by go_num, _, rfl⟩
        case measure => simp [intOf]; omega
      · go_wp2
        go_ret
        exact ⟨rfl, q, rfl⟩

/-! ### The bytes of a number -/
def pw : Nat → Int
  | 0 => 1
  | j + 1 => pw j * 256
def bytesTo (n : Int) (size : Nat) (i : Nat) : List Int := (List.range i).map fun j => n / pw (size - 1 - j) % 256
theorem bytesTo_succ (n : Int) (size i : Nat) : bytesTo n size (i + 1) = bytesTo n size i ++ [n / pw (size - 1 - i) % 256] := by simp [bytesTo, List.range_succ]
theorem bytesTo_len (n : Int) (size i : Nat) : (bytesTo n size i).length = i := by simp [bytesTo]
theorem pw_bd (j : Nat) (h : j ≤ 3) : 1 ≤ pw j ∧ pw j ≤ 16777216 ∧ (j ≤ 2 → pw j ≤ 65536) := by
  match j, h with
  | 0, _ => decide
  | 1, _ => decide
  | 2, _ => decide
  | 3, _ => decide

end Go.Proofs.Ytahegkbdefhlpaa.oc
/-!   DuctFull.
-/
namespace Go.Proofs.Ytahegkbdefhlpaa.dc
open Go.RowKit Go.Shelf Go.Maps aid mem
attribute [local go_sem ↓] Go.wp_at_zero Go.wp_at_succ
set_option linter.unusedVariables false
set_option linter.unusedSimpArgs false

/-- rows of bytes stay -/
def KB (W W' : World) : Prop := ∀ a n cap l, BRow W a n cap l → BRow W' a n cap l
theorem KB.of_below {W W' : World} (h : Below W.heap.size W W') : KB W W' := fun _ _ _ _ r => r.later h
theorem KB.trans {A B C : World} (h : KB A B) (k : KB B C) : KB A C := fun a n cap l r => k a n cap l (h a n cap l r)
section
variable {w W W' : World} {B : Nat} {h : Hm} {x x' : Dk} {v : Value} {e : Ending} (S : DS w B h x W)
include S
theorem DS.kb {T : List Nat} (hk : Kept (blks B h) W W') : KB W W' := fun a n cap l r => r.keep hk (fun b hb => by
  obtain ⟨q, cs, hc⟩ := r.lt b hb
  obtain ⟨⟨n, D, d, _⟩, _⟩ := S.d
  obtain ⟨t1, t2, t3, t4, t5, t6⟩ := nts
  exact d.typ hc t3.symm t5.symm t6.symm)
theorem DS.wroteK (r : RetS v B h x' W e W') : e = .returned v ∧ (∃ h', DS w B h' x' W') ∧ KB W W' := by
  have hs := S.wrote r
  obtain ⟨rfl, h', d, k, b⟩ := r
  exact ⟨rfl, hs.2, S.kb (T := []) k⟩
theorem ds_doubleK (hn : x.l.length ≤ 1000000) (id now : Int) (hi : -9223372036854775808 ≤ id ∧ id ≤ 9223372036854775807) :
    Calls Try.prog 19 #[.pointer (some ⟨B, 0, none⟩), .int .i64 id, .int .i64 now] W fun e w' => e = .returned (.tuple #[.int .i64 (dblN x id now), .int .i64 (dblE x id now)]) ∧ (∃ h', DS w B h' (dblX x id now) w') ∧ KB W w' :=
  (double_any S.d hn id now hi).mono fun e w' q => S.wroteK q
theorem ds_takeB (hn : x.l.length ≤ 1000000) (id now : Int) (hi : -9223372036854775808 ≤ id ∧ id ≤ 9223372036854775807) (hr : ∀ i ∈ fly x.l, (cpAt x.l i).raw.length ≤ 1000000) :
    Calls Try.prog 15 #[.pointer (some ⟨B, 0, none⟩), .int .i64 id, .int .i64 now] W fun e w' => ∃ a cap, e = .returned (.tuple #[.slice a (takL x id now).length cap, .int .i64 (whichE x id now)]) ∧ BRow w' a (takL x id now).length cap (takL x id now) ∧ ∃ h', DS w B h' (endX x id now 1) w' :=
  (take_any S.d hn id now hi hr).mono fun e w' ⟨a, cap, q1, q2⟩ => ⟨a, cap, (S.wrote q2).1, q1, (S.wrote q2).2⟩
theorem ds_len : Calls Try.prog 17 #[.pointer (some ⟨B, 0, none⟩)] W fun e w' => e = .returned (.int .i64 ((fly x.l).length : Nat)) ∧ DS w B h x w' :=
  (len_q S.d).below.mono fun e w' q => ⟨q.1, S.later q.2⟩
theorem ds_total : Calls Try.prog 18 #[.pointer (some ⟨B, 0, none⟩)] W fun e w' => e = .returned (.int .i64 (x.l.length : Nat)) ∧ DS w B h x w' :=
  (total_q S.d).below.mono fun e w' q => ⟨q.1, S.later q.2⟩
end
/-- k copies of the same bytes, all under way -/
structure Fl (l : List Int) (k : Nat) (x : Dk) : Prop where
  len : x.l.length = k
  all : ∀ i, i < k → (cpAt x.l i).k = 0 ∧ (cpAt x.l i).raw = l
  now : x.now ≤ k
theorem Fl.fly {l : List Int} {k : Nat} {x : Dk} (h : Fl l k x) : dc.fly x.l = List.range k := by
  unfold dc.fly
  rw [h.len]
  apply List.filter_eq_self.2
  intro i hi
  simpa using (h.all i (by simpa using hi)).1
theorem Fl.put {l : List Int} {k : Nat} {x : Dk} (h : Fl l k x) (hk : k < 4096) (hl : l.length ≤ 2096) : putE x l.length k = 0 ∧ Fl l (k + 1) (putX x l k) := by
  have hw : whenE x (k : Int) = 0 := when0.2 ⟨h.now, by omega⟩
  have hs : sendE x = 0 := by unfold sendE; rw [h.fly, if_neg (by simp; omega)]
  have e : putE x l.length k = 0 := by unfold putE; rw [hw, if_neg (by decide), if_neg (by omega), hs]
  refine ⟨e, ?_⟩
  unfold putX
  rw [e, if_pos rfl]
  refine ⟨by simp [h.len], fun i hi => ?_, by show (k : Int) ≤ _; omega⟩
  dsimp only
  by_cases c : i < x.l.length
  · rw [cpAt_lt c]; exact h.all i (by rw [← h.len]; exact c)
  · have : i = x.l.length := by have := h.len; omega
    subst this
    rw [cpAt_new]; exact ⟨rfl, rfl⟩
theorem Fl.full {l : List Int} {x : Dk} (h : Fl l 4096 x) (hl : l.length ≤ 2096) : putE x l.length 4096 = 4 ∧ putX x l 4096 = x ∧ dblE x 3 4096 = 4 ∧ dblX x 3 4096 = x ∧ whichE x 7 4096 = 0 ∧ takL x 7 4096 = l ∧ ∃ y, endX x 7 4096 1 = y ∧ dblE y 3 4096 = 0 ∧ dblN y 3 4096 = 4096 ∧ (dc.fly (dblX y 3 4096).l).length = 4096 ∧ y.l.length = 4096 := by
  have hw : whenE x 4096 = 0 := when0.2 ⟨by have := h.now; omega, by omega⟩
  have hs : sendE x = 4 := by unfold sendE; rw [h.fly, if_pos (by simp)]
  have m3 : isF x 3 := ⟨by decide, by rw [h.fly]; simp⟩
  have m7 : isF x 7 := ⟨by decide, by rw [h.fly]; simp⟩
  have w3 : whichE x 3 4096 = 0 := by unfold whichE; rw [hw, if_neg (by decide), if_pos m3]
  have w7 : whichE x 7 4096 = 0 := by unfold whichE; rw [hw, if_neg (by decide), if_pos m7]
  have e1 : putE x l.length 4096 = 4 := by unfold putE; rw [hw, if_neg (by decide), if_neg (by omega), hs]
  have e2 : dblE x 3 4096 = 4 := by unfold dblE; rw [w3, if_neg (by decide), hs]
  refine ⟨e1, by unfold putX; rw [e1, if_neg (by decide)], e2, by unfold dblX; rw [e2, if_neg (by decide)], w7, by unfold takL; rw [w7, if_pos rfl]; exact (h.all 7 (by decide)).2, endL x 7 4096 1, by unfold endX; rw [w7, if_pos rfl]; rfl, ?_⟩
  have hi7 : 7 ∈ dc.fly x.l := m7.2
  have hlen : (endL x 7 4096 1).l.length = 4096 := by unfold endL; simp [h.len]
  obtain ⟨p, hp, hp2, hfl⟩ := fly_end hi7 4096 1 (by decide)
  have hfy : (dc.fly (endL x 7 4096 1).l).length = 4095 := by
    rw [hfl, List.length_append, List.length_take, List.length_drop]
    have : (dc.fly x.l).length = 4096 := by rw [h.fly]; simp
    omega
  have hm3 : isF (endL x 7 4096 1) 3 := ⟨by decide, (mem_fly_end hi7 4096 1 (by decide) 3).2 ⟨m3.2, by decide⟩⟩
  have hw2 : whenE (endL x 7 4096 1) 4096 = 0 := when0.2 ⟨by show (4096 : Int) ≤ 4096; omega, by omega⟩
  have hw3 : whichE (endL x 7 4096 1) 3 4096 = 0 := by unfold whichE; rw [hw2, if_neg (by decide), if_pos hm3]
  have hs2 : sendE (endL x 7 4096 1) = 0 := by unfold sendE; rw [if_neg (by rw [hfy]; decide)]
  have e3 : dblE (endL x 7 4096 1) 3 4096 = 0 := by unfold dblE; rw [hw3, if_neg (by decide), hs2]
  refine ⟨e3, by unfold dblN; rw [e3, if_pos rfl, hlen]; rfl, ?_, hlen⟩
  unfold dblX
  rw [e3, if_pos rfl]
  dsimp only
  rw [fly_put _ _ (isF_lt hm3).2.2, List.length_append, hfy]
  rfl
set_option maxRecDepth 100000 in
set_option maxHeartbeats 4000000 in
theorem walk_DuctFull (w : World) (a : Option Addr) (len cap : Nat) (zs : List Int) (hrow : IsRow .u8 w a len cap zs) :
    Calls Try.prog 5 #[.slice a len cap] w fun x w' => x = .returned (.bool true) ∧ Below w.heap.size w w' := by
  have hsl := sl_of_row hrow
  have hlen := hsl.len
  clear hrow
  generalize zs.take len = l at *
  have HSL := Lib.hid (fun X (hb : Below w.heap.size w X) => hsl.later hb)
  have HN := Lib.hid (fun W (hb : Below w.heap.size w W) => ds_new (w0 := w) hb)
  by_cases hbig : 2096 < len
  case pos =>
    have HP := Lib.hid (fun (B : Nat) (h : Hm) W (S : DS w B h ⟨0, []⟩ W) => show Calls Try.prog 12 #[.pointer (some ⟨B, 0, none⟩), .slice a len cap, .int .i64 0] W fun e w' => e = .returned (.tuple #[.int .i64 0, .int .i64 9]) ∧ Below w.heap.size w w' from by
      have e : putE ⟨0, []⟩ len 0 = 9 := by unfold putE; rw [show whenE ⟨0, []⟩ 0 = 0 from rfl, if_neg (by decide), if_pos hbig]
      have := ds_put S (by simp) (HSL.out W S.below) 0
      rw [e, show putN ⟨0, []⟩ len 0 = 0 from by unfold putN; rw [if_neg (by rw [e]; decide)]] at this
      exact this.mono fun e w' ⟨q1, h', q2⟩ => ⟨q1, q2.below⟩)
    have hb0 := Below.refl w.heap.size w
    clear hsl HSL hlen
    go_enter Try.func5, Try.ntmps5
    go_wp2_with (first
      | (go_at_call 7; (with_reducible refine (known_b hb0).mono ?_); clear hb0; rintro e w1 ⟨rfl, hb0⟩)
      | (go_at_call 8; (with_reducible refine (HN.out _ hb0).mono ?_); rintro e w2 ⟨B, h, rfl, S⟩)
      | (go_at_call 12; go_must (with_reducible refine (HP.out B h _ S).mono ?_); clear hb0; rintro e w3 ⟨rfl, hb0⟩))
    go_ret
    exact ⟨rfl, hb0⟩
  case neg =>
  have hl96 : l.length ≤ 2096 := by omega
  have HL := Lib.hid (And.intro hl96 hlen)
  have HP := Lib.hid (fun (B : Nat) (h : Hm) (k : Nat) (x : Dk) W (hk : k < 4096) (F : Fl l k x) (S : DS w B h x W) => show Calls Try.prog 12 #[.pointer (some ⟨B, 0, none⟩), .slice a len cap, .int .i64 (k : Nat)] W fun e w' => e = .returned (.tuple #[.int .i64 (k : Nat), .int .i64 0]) ∧ ∃ h' x', DS w B h' x' w' ∧ Fl l (k + 1) x' from by
    obtain ⟨e1, e2⟩ := F.put hk HL.out.1
    have := ds_put S (by have := F.len; omega) (HSL.out W S.below) (k : Int)
    rw [← HL.out.2] at this ⊢
    rw [e1, show putN x l.length k = (k : Nat) from by unfold putN; rw [if_pos e1, F.len]] at this
    exact this.mono fun e w' ⟨q1, h', q2⟩ => ⟨q1, h', _, q2, e2⟩)
  have HE := Lib.hid (fun (B : Nat) (h : Hm) (x : Dk) W (F : Fl l 4096 x) (S : DS w B h x W) => show Calls Try.prog 12 #[.pointer (some ⟨B, 0, none⟩), .slice a len cap, .int .i64 4096] W fun e w' => e = .returned (.tuple #[.int .i64 0, .int .i64 4]) ∧ ∃ h', DS w B h' x w' from by
    obtain ⟨e1, e2, _⟩ := F.full HL.out.1
    have := ds_put S (by have := F.len; omega) (HSL.out W S.below) 4096
    rw [← HL.out.2] at this ⊢
    rw [e1, e2, show putN x l.length 4096 = 0 from by unfold putN; rw [if_neg (by rw [e1]; decide)]] at this
    exact this)
  have HD := Lib.hid (fun (B : Nat) (h : Hm) (x : Dk) W (F : Fl l 4096 x) (S : DS w B h x W) => show Calls Try.prog 19 #[.pointer (some ⟨B, 0, none⟩), .int .i64 3, .int .i64 4096] W fun e w' => e = .returned (.tuple #[.int .i64 0, .int .i64 4]) ∧ ∃ h', DS w B h' x w' from by
    obtain ⟨_, _, e1, e2, _⟩ := F.full HL.out.1
    have := ds_double S (by have := F.len; omega) 3 4096 (by decide)
    rw [e1, e2, show dblN x 3 4096 = 0 from by unfold dblN; rw [if_neg (by rw [e1]; decide)]] at this
    exact this)
  have HT := Lib.hid (fun (B : Nat) (h : Hm) (x : Dk) W (F : Fl l 4096 x) (S : DS w B h x W) => show Calls Try.prog 15 #[.pointer (some ⟨B, 0, none⟩), .int .i64 7, .int .i64 4096] W fun e w' => ∃ a' cap', e = .returned (.tuple #[.slice a' len cap', .int .i64 0]) ∧ BRow w' a' len cap' l ∧ ∃ h' y, DS w B h' y w' ∧ dblE y 3 4096 = 0 ∧ dblN y 3 4096 = 4096 ∧ (dc.fly (dblX y 3 4096).l).length = 4096 ∧ y.l.length = 4096 from by
    obtain ⟨_, _, _, _, e1, e2, y, e3, e4⟩ := F.full HL.out.1
    have := ds_takeB S (by have := F.len; omega) 7 4096 (by decide) (fun i hi => by
      have hi' := (mem_fly.1 hi).1
      rw [(F.all i (by rw [← F.len]; exact hi')).2]
      have := HL.out.1; omega)
    rw [e1, e2, e3, HL.out.2] at this
    exact this.mono fun e w' ⟨a', cap', q1, q2, h', q3⟩ => ⟨a', cap', q1, q2, h', y, q3, e4⟩)
  have HD2 := Lib.hid (fun (B : Nat) (h : Hm) (y : Dk) W (e4 : dblE y 3 4096 = 0 ∧ dblN y 3 4096 = 4096 ∧ (dc.fly (dblX y 3 4096).l).length = 4096 ∧ y.l.length = 4096) (S : DS w B h y W) => show Calls Try.prog 19 #[.pointer (some ⟨B, 0, none⟩), .int .i64 3, .int .i64 4096] W fun e w' => e = .returned (.tuple #[.int .i64 4096, .int .i64 0]) ∧ (∃ h', DS w B h' (dblX y 3 4096) w') ∧ KB W w' from by
    have := ds_doubleK S (by have := e4.2.2.2; omega) 3 4096 (by decide)
    rw [e4.1, e4.2.1] at this
    exact this)
  have HLN := Lib.hid (fun (B : Nat) (h : Hm) (y : Dk) W (e4 : (dc.fly y.l).length = 4096) (S : DS w B h y W) => show Calls Try.prog 17 #[.pointer (some ⟨B, 0, none⟩)] W fun e w' => e = .returned (.int .i64 4096) ∧ DS w B h y w' from by
    have := ds_len S
    rw [e4] at this
    exact this)
  have HSM := Lib.hid (fun W (hb : Below w.heap.size w W) a' cap' (hr : BRow W a' len cap' l) => oc.same_true a' a len cap' cap l W (SlA.of_r hr) (HSL.out W hb))
  unfold oc.RetQ at HSM
  have F0 : Fl l 0 ⟨0, []⟩ := ⟨rfl, fun i hi => by omega, by decide⟩
  have hb0 := Below.refl w.heap.size w
  clear hsl HSL hlen hl96 HL
  go_enter Try.func5, Try.ntmps5
  go_wp2_with (first
    | (go_at_call 7; (with_reducible refine (known_b hb0).mono ?_); clear hb0; rintro e w1 ⟨rfl, hb0⟩)
    | (go_at_call 8; (with_reducible refine (HN.out _ hb0).mono ?_); rintro e w2 ⟨B, h, rfl, S⟩))
  go_loopw [6] (fun s6 wr => ∃ (k : Nat) (h : Hm) (x : Dk), s6 = .int .i64 k ∧ k ≤ 4096 ∧ Fl l k x ∧ DS w B h x wr) (fun i _ => 4096 - (intOf i).toNat)
  case atStart => exact ⟨0, h, _, rfl, by omega, F0, S⟩
  case round =>
    obtain ⟨k, h, x, rfl, hk, F, S⟩ := hrel
    by_cases hlt : k < 4096
    · go_wp2_with (go_at_call 12; go_must (with_reducible refine (HP.out B h k x _ hlt F S).mono ?_); clear F S; rintro e w3 ⟨rfl, h', x', S, F⟩)
      go_roundw
      case measure => simp [intOf]; omega
      case rel => exact ⟨k + 1, h', x', by first | rfl | simp, by omega, F, S⟩
    · have hk2 : k = 4096 := by omega
      subst hk2
      go_wp2_with (first
        | (go_at_call 12; go_must (with_reducible refine (HE.out B h x _ F S).mono ?_); clear S; rintro e w3 ⟨rfl, h3, S⟩)
        | (go_at_call 19; first
          | ((with_reducible refine (HD.out B h3 x _ F S).mono ?_); clear S; rintro e w4 ⟨rfl, h4, S⟩)
          | ((with_reducible refine (HD2.out B h5 y _ HY.out S).mono ?_); clear S; rintro e w6 ⟨rfl, ⟨h6, S⟩, kb⟩; replace hr5 := kb _ _ _ _ hr5))
        | (go_at_call 15; go_must (with_reducible refine (HT.out B h4 x _ F S).mono ?_); clear S F; rintro e w5 ⟨a', cap', rfl, hr5, h5, y, S, hy⟩; have HY := Lib.hid hy; clear hy)
        | (go_at_call 16; go_must (with_reducible refine (HSM.out _ S.below a' cap' hr5).mono ?_); rintro e w7 ⟨rfl, q7, rfl⟩; replace S := S.later (W' := w6.drewN q7) ⟨rfl, rfl, rfl, Nat.le_refl _, fun _ _ => rfl⟩)
        | (go_at_call 17; go_must (with_reducible refine (HLN.out B h6 _ _ HY.out.2.2.1 S).mono ?_); clear S; rintro e w8 ⟨rfl, S⟩)
        | (go_at_call 7; go_must (with_reducible refine (known_b S.below).mono ?_); clear S; rintro e w9 ⟨rfl, hb9⟩))
      go_ret
      exact ⟨rfl, hb9⟩
end Go.Proofs.Ytahegkbdefhlpaa.dc
/-!   What came in, opened: a slice of whatever elements, element by element. Imports nothing of the program.
-/
namespace Go.Proofs.Ytahegkbdefhlpaa.opn
open Go.RowKit aid mem Go.ChangeShapes Go.WideShapes Go.ChangeAt
set_option linter.unusedVariables false

theorem exists_list {T : Type} (n : Nat) (Q : Nat → T → Prop) (h : ∀ i, i < n → ∃ t, Q i t) : ∃ l : List T, l.length = n ∧ ∀ i (hi : i < l.length), Q i l[i] := by
  induction n with
  | zero => exact ⟨[], rfl, fun i hi => absurd hi (Nat.not_lt_zero i)⟩
  | succ n ih =>
    obtain ⟨l, hl, hq⟩ := ih (fun i hi => h i (by omega))
    obtain ⟨t, ht⟩ := h n (by omega)
    refine ⟨l ++ [t], by simp [hl], fun i hi => ?_⟩
    by_cases hil : i < l.length
    · rw [List.getElem_append_left hil]; exact hq i hil
    · have : i = n := by simp at hi; omega
      subst this
      simpa [hl] using ht

theorem mapM_some {α : Type} (f : Nat → Option α) : ∀ (n : Nat) (cs : List α), (List.range n).mapM f = some cs → cs.length = n ∧ ∀ j, j < n → f j = cs[j]? := by
  intro n
  induction n with
  | zero => intro cs h; simp at h; subst h; exact ⟨rfl, fun j hj => absurd hj (Nat.not_lt_zero j)⟩
  | succ n ih =>
    intro cs h
    rw [List.range_succ, List.mapM_append] at h
    simp only [Option.bind_eq_bind, Option.bind_eq_some_iff] at h
    obtain ⟨qs, h1, bs, h2, h3⟩ := h
    rw [List.mapM_cons] at h2
    simp only [List.mapM_nil, Option.bind_eq_bind, Option.bind_eq_some_iff] at h2
    obtain ⟨c, hc, _, h4, h5⟩ := h2
    injection h4 with h4
    subst h4
    injection h5 with h5
    subst h5
    injection h3 with h3
    subst h3
    obtain ⟨hl, hj⟩ := ih qs h1
    refine ⟨by simp [hl], fun j hjn => ?_⟩
    by_cases hjl : j < n
    · rw [hj j hjl, List.getElem?_append_left (by omega)]
    · have : j = n := by omega
      subst this
      rw [hc, List.getElem?_append_right (by omega)]
      simp [hl]

theorem cells_some {w : World} {base : Nat} {a : Addr} {n : Nat} {cs : List Value} (h : w.cells? base a n = some cs) : cs.length = n ∧ ∀ j, j < n → w.cell? (a.add j) = cs[j]? := by
  unfold World.cells? at h
  split at h
  · exact mapM_some _ _ _ h
  · cases h

/-- a slice of elements of c cells each: the element at i stands for l's at i, by R -/
structure ElA {T : Type} (R : List Value → T → Prop) (c : Nat) (w : World) (a : Option Addr) (n cap : Nat) (l : List T) : Prop where
  len : l.length = n
  le : n ≤ cap
  most : cap ≤ maxLen
  nil : a = none → cap = 0
  cells : 0 < n → ∃ b off, a = some ⟨b, off, none⟩ ∧ ∀ i (hi : i < l.length), ∃ cs, R cs l[i] ∧ cs.length = c ∧ ∀ j, j < c → w.cell? ⟨b, off + (i * c + j), none⟩ = cs[j]?

theorem ElA.keep {T : Type} {R : List Value → T → Prop} {c : Nat} {w w' : World} {a : Option Addr} {n cap : Nat} {l : List T} (h : ElA R c w a n cap l) {S : List Nat} (hk : Kept S w w') (hd : ∀ x, a = some x → x.block ∉ S) : ElA R c w' a n cap l :=
  ⟨h.len, h.le, h.most, h.nil, fun h0 => by
    obtain ⟨b, off, rfl, hc⟩ := h.cells h0
    refine ⟨b, off, rfl, fun i hi => ?_⟩
    obtain ⟨cs, h1, h2, h3⟩ := hc i hi
    refine ⟨cs, h1, h2, fun j hj => ?_⟩
    have h4 := h3 j hj
    rw [List.getElem?_eq_getElem (by omega)] at h4 ⊢
    exact hk.cell (p := ⟨b, off + (i * c + j), none⟩) (hd ⟨b, off, none⟩ rfl) h4⟩

section
variable {H : Type} {enc : TypeId × Value → H} {P : Program} {w : World} {base : Nat} {spare : Nat → Bool} {held : Bool}

/-- opened: 'hE': what one element's reading says -/
theorem open_els {T : Type} {R : List Value → T → Prop} {D : DataW H → T → Prop} {t e : TypeId} {a : Option Addr} {len cap : Nat} {d : DataW H} {p : List MemPlace}
    (ht : P.underlying t = some (.slice e)) (hc : 0 < P.cellsOf e) (h : ∃ fuel, DataW.trod enc P w base spare held fuel t [.slice a len cap] = some (d, p))
    (hE : ∀ n cs d' p', DataW.trod enc P w base spare held n e cs = some (d', p') → ∃ x : T, R cs x ∧ D d' x) :
    ∃ l : List T, ElA R (P.cellsOf e) w a len cap l ∧ ((d = .nil ∧ l = []) ∨ ∃ elems rest, d = .slice elems rest ∧ elems.length = l.length ∧ ∀ i (hi : i < l.length) (hi' : i < elems.length), D elems[i] l[i]) := by
  obtain ⟨fuel, h⟩ := h
  rcases DataW.trod_slice ht h with ⟨hcs, hx⟩ | ⟨a', len', cap', elems, rest, n, _, hcs, hx, hb, hl, hm, hlen, hel, hsp, hns⟩
  · injection hcs with hcs _
    injection hcs with h1 h2 h3
    subst h1 h2 h3
    injection hx with hx _
    exact ⟨[], ⟨rfl, Nat.le_refl _, by simp [maxLen], fun _ => rfl, fun h => by omega⟩, .inl ⟨hx, rfl⟩⟩
  · injection hcs with hcs _
    injection hcs with h1 h2 h3
    subst h1 h2 h3
    injection hx with hx _
    have hkey : ∀ i, i < len → ∃ x : T, (∃ cs, R cs x ∧ w.cells? base (a'.add (i * P.cellsOf e)) (P.cellsOf e) = some cs) ∧ ∃ y, elems[i]? = some y ∧ D y.1 x := by
      intro i hi
      have := hel i hi
      rw [List.getElem?_eq_getElem (by omega)] at this
      obtain ⟨cs, h1, h2⟩ := Option.bind_eq_some_iff.1 this
      obtain ⟨x, hR, hD⟩ := hE n cs _ _ h2
      exact ⟨x, ⟨cs, hR, h1⟩, _, List.getElem?_eq_getElem (by omega), hD⟩
    obtain ⟨l, hll, hq⟩ := exists_list len _ hkey
    refine ⟨l, ⟨hll, hl, hm, (fun h => by cases h), fun h0 => ?_⟩, .inr ⟨_, _, hx, by simp [hlen, hll], fun i hi hi' => ?_⟩⟩
    · have hshape : a'.spot = none := by
        obtain ⟨⟨cs, _, hcs⟩, _⟩ := hq 0 (by omega)
        obtain ⟨hcl, hcj⟩ := cells_some hcs
        have h0 := hcj 0 hc
        rw [List.getElem?_eq_getElem (by omega)] at h0
        simp only [Nat.zero_mul, Addr.add, if_true] at h0
        unfold World.cell? at h0
        split at h0
        · split at h0
          · cases h0
          · rename_i hs; simpa using hs
        · cases h0
      obtain ⟨b, off, spot⟩ := a'
      simp only at hshape
      subst hshape
      refine ⟨b, off, rfl, fun i hi => ?_⟩
      obtain ⟨⟨cs, hR, hcs⟩, _⟩ := hq i hi
      obtain ⟨hcl, hcj⟩ := cells_some hcs
      refine ⟨cs, hR, hcl, fun j hj => ?_⟩
      have hadd : (⟨b, off, none⟩ : Addr).add (i * P.cellsOf e + j) = ⟨b, off + (i * P.cellsOf e + j), none⟩ := by unfold Addr.add; split <;> simp_all
      rw [← hcj j hj, Go.Deep.add_add, hadd]
    · obtain ⟨_, y, hy, hD⟩ := hq i hi
      have hie : i < elems.length := by omega
      rw [List.getElem?_eq_getElem hie] at hy
      injection hy with hy
      simp only [List.getElem_map]
      rw [hy]
      exact hD
end
end Go.Proofs.Ytahegkbdefhlpaa.opn
/-!   Structs that came in, and slices of them (written by gen_open.py).
-/
namespace Go.Proofs.Ytahegkbdefhlpaa.dc
open Go.RowKit aid mem opn Go.ChangeShapes Go.WideShapes Go.ChangeAt
set_option linter.unusedVariables false
set_option linter.unusedSimpArgs false

structure OpV where
  kind : Int
  id : Int
  b : Option Addr × Nat × Nat × List Int
  dt : Int
instance : Inhabited OpV := ⟨⟨0, 0, (none, 0, 0, []), 0⟩⟩
theorem cells_i64 : Try.prog.cellsOf 3 = 1 := by kernel_rfl
theorem cells_u8 : Try.prog.cellsOf 5 = 1 := by kernel_rfl
theorem cells_op : Try.prog.cellsOf 25 = 4 := by kernel_rfl
theorem cells_bts : Try.prog.cellsOf 23 = 1 := by kernel_rfl
def OpOk (w : World) (q : OpV) : Prop := (0 ≤ q.kind ∧ q.kind ≤ 255) ∧ (-9223372036854775808 ≤ q.id ∧ q.id ≤ 9223372036854775807) ∧ (-9223372036854775808 ≤ q.dt ∧ q.dt ≤ 9223372036854775807) ∧ SlA .u8 w q.b.1 q.b.2.1 q.b.2.2.1 q.b.2.2.2
def OpIs (w : World) (cs : List Value) (q : OpV) : Prop := cs = [.int .u8 q.kind, .int .i64 q.id, .slice q.b.1 q.b.2.1 q.b.2.2.1, .int .i64 q.dt] ∧ OpOk w q
/-- they lie where the slice leads -/
structure OpA (w : World) (a : Option Addr) (n cap : Nat) (l : List OpV) : Prop where
  len : l.length = n
  le : n ≤ cap
  most : cap ≤ maxLen
  cells : 0 < n → ∃ b off, a = some ⟨b, off, none⟩ ∧ ∀ i, i < n → w.cell? ⟨b, off + i * 4, none⟩ = some (.int .u8 (l.getD i default).kind) ∧ w.cell? ⟨b, off + i * 4 + 1, none⟩ = some (.int .i64 (l.getD i default).id) ∧ w.cell? ⟨b, off + i * 4 + 2, none⟩ = some (.slice (l.getD i default).b.1 (l.getD i default).b.2.1 (l.getD i default).b.2.2.1) ∧ w.cell? ⟨b, off + i * 4 + 3, none⟩ = some (.int .i64 (l.getD i default).dt) ∧ OpOk w (l.getD i default)
section
variable {H : Type} {enc : TypeId × Value → H} {w : World} {base : Nat}
set_option maxRecDepth 100000 in
theorem op_of (n : Nat) (cs : List Value) (d : DataW H) (p : List MemPlace)
    (h : DataW.trod enc Try.prog w base (fun _ => true) true n 25 cs = some (d, p)) : ∃ q : OpV, OpIs w cs q ∧ True := by
  obtain ⟨xs, m, _, hx, hl, hxl, hf⟩ := DataW.trod_struct Try.underlying25 h
  rw [cells_op] at hl
  have h0 := hf 0 _ rfl
  have h1 := hf 1 _ rfl
  have h2 := hf 2 _ rfl
  have h3 := hf 3 _ rfl
  match cs, hl, xs, hxl with
  | [c0, c1, c2, c3], _, [x0, x1, x2, x3], _ =>
    simp [cells_i64, cells_u8, cells_bts] at h0 h1 h2 h3
    obtain ⟨v0, hv0, _, hw0⟩ := DataW.trod_int Try.underlying5 h0
    injection hv0 with hv0 _
    obtain ⟨v1, hv1, _, hw1⟩ := DataW.trod_int Try.underlying3 h1
    injection hv1 with hv1 _
    have key2 : ∃ (a : Option Addr) (len cap : Nat) (l : List Int), c2 = .slice a len cap ∧ SlA .u8 w a len cap l := by
      rcases open_ints Try.underlying23 Try.underlying5 cells_u8 h2 with ⟨hcs, _⟩ | ⟨a, len, cap, zs, hcs, _, hl, hm, hz, _, hcell, hwz⟩
      · injection hcs with hcs _
        exact ⟨none, 0, 0, [], hcs, sl_of_row (.inl ⟨rfl, rfl, rfl, rfl⟩)⟩
      · injection hcs with hcs _
        exact ⟨some a, len, cap, zs.take len, hcs, sl_of_row (.inr ⟨_, rfl, hl, hm, by simpa using hz, hcell, hwz⟩)⟩
    obtain ⟨a2, n2, k2, l2, hv2, hb2⟩ := key2
    obtain ⟨v3, hv3, _, hw3⟩ := DataW.trod_int Try.underlying3 h3
    injection hv3 with hv3 _
    subst hv0 hv1 hv2 hv3
    exact ⟨⟨v0, v1, (a2, n2, k2, l2), v3⟩, ⟨rfl, bounds_u8 hw0, bounds_i64 hw1, bounds_i64 hw3, hb2⟩, trivial⟩
theorem opa_of_els {a : Option Addr} {len cap : Nat} {l : List OpV} (h : ElA (OpIs w) 4 w a len cap l) : OpA w a len cap l := by
  refine ⟨h.len, h.le, h.most, fun h0 => ?_⟩
  obtain ⟨b, off, ha, hc⟩ := h.cells h0
  refine ⟨b, off, ha, fun i hi => ?_⟩
  have hil : i < l.length := by rw [h.len]; exact hi
  obtain ⟨cs, hR, _, hj⟩ := hc i hil
  have hg : l.getD i default = l[i] := by simp [List.getD, hil]
  obtain ⟨rfl, hok⟩ := hR
  rw [hg]
  have h0 := hj 0 (by omega)
  have h1 := hj 1 (by omega)
  have h2 := hj 2 (by omega)
  have h3 := hj 3 (by omega)
  exact ⟨by simpa using h0, by simpa [Nat.add_assoc] using h1, by simpa [Nat.add_assoc] using h2, by simpa [Nat.add_assoc] using h3, hok⟩
theorem open_ops {a : Option Addr} {len cap : Nat} {d : DataW H} {p : List MemPlace}
    (h : ∃ fuel, DataW.trod enc Try.prog w base (fun _ => true) true fuel 22 [.slice a len cap] = some (d, p)) :
    ∃ l : List OpV, OpA w a len cap l ∧ True := by
  obtain ⟨l, hl, _⟩ := open_els (R := OpIs w) (D := fun _ _ => True) Try.underlying22 (by rw [cells_op]; omega) h op_of
  rw [cells_op] at hl
  exact ⟨l, opa_of_els hl, trivial⟩
set_option maxRecDepth 100000 in
theorem open_op {b0 : Nat} {v : Value} {d : DataW H} {p : List MemPlace} (hv : Value.okWide Try.prog w .any b0 25 v)
    (hk : DataW.Trod enc Try.prog w base (fun _ => true) true 25 v d p) : ∃ s : {q : OpV // OpOk w q}, v = .agg #[.int .u8 s.1.kind, .int .i64 s.1.id, .slice s.1.b.1 s.1.b.2.1 s.1.b.2.2.1, .int .i64 s.1.dt] := by
  obtain ⟨cs, rfl, hsz⟩ := okWide_struct Try.underlying25 hv
  obtain ⟨fuel, h⟩ := hk
  obtain ⟨q, ⟨hq, hok⟩, _⟩ := op_of fuel _ d p h
  have : cs = #[.int .u8 q.kind, .int .i64 q.id, .slice q.b.1 q.b.2.1 q.b.2.2.1, .int .i64 q.dt] := by
    apply Array.toList_inj.1
    simpa [Value.cells] using hq
  subst this
  exact ⟨⟨q, hok⟩, rfl⟩
end
end Go.Proofs.Ytahegkbdefhlpaa.dc
