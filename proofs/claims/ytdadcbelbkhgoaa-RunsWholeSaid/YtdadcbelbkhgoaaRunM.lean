/-
  RunsFull.
-/
import Derived.Test.YtdadcbelbkhgoaaRunL
namespace Go.Proofs.Ytdadcbelbkhgoaa.rn
open Go.RowKit Go.Shelf aid mem rng sp
attribute [local go_sem ↓] Go.wp_at_zero Go.wp_at_succ
set_option linter.unusedVariables false
set_option linter.unusedSimpArgs false

theorem wi_end {l : List Sp} {s : Sp} (hl : Rn l) (hs : ROk s) (h : ∀ x ∈ l, x.2 < s.1) : refWi l s = l ++ [s] := by
  obtain ⟨w1, w2, _⟩ := wi_spec hl hs
  refine Rn.ext w1 ⟨fun x hx => ?_, List.pairwise_append.2 ⟨hl.up, List.pairwise_singleton _ _, fun x hx y hy => ?_⟩⟩ (fun o => ?_)
  · rcases List.mem_append.1 hx with h | h
    · exact hl.ok x h
    · simp at h; subst h; exact hs
  · simp at hy; subst hy; exact h x hx
  · rw [w2, In.append, In.one]
theorem within_end {l : List Sp} {s : Sp} (hl : ∀ x ∈ l, ROk x) (hs : ROk s) (h : ∀ x ∈ l, x.2 < s.1) : withinL l s = 0 := by
  induction l with
  | nil => rfl
  | cons x l ih =>
    have hx := hl x (by simp)
    have := h x (by simp)
    rw [within_cons, ih (fun y hy => hl y (List.mem_cons_of_mem _ hy)) (fun y hy => h y (List.mem_cons_of_mem _ hy)), meet_len hx.ok hs.ok, if_neg ?_]
    · omega
    · have := hx.2.1; have := hs.2.1; omega
theorem addN_end {l : List Sp} {s : Sp} (hl : Rn l) (hs : ROk s) (h : ∀ x ∈ l, x.2 < s.1) (hn : l.length < 4096) : addN l s = (s.2 - s.1, 0, l ++ [s]) := by
  have hw := within_end hl.ok hs h
  have he := wi_end hl hs h
  have h1 := hs.2.1
  unfold addN
  rw [if_pos (mayB_iff.2 hs.ok), hw, he, len_rok hs, if_neg (by omega), if_neg (by simp; omega)]
  simp
theorem addN_full {l : List Sp} {s : Sp} (hl : Rn l) (hs : ROk s) (h : ∀ x ∈ l, x.2 < s.1) (hn : l.length = 4096) : addN l s = (0, 4, l) := by
  have hw := within_end hl.ok hs h
  have he := wi_end hl hs h
  have h1 := hs.2.1
  unfold addN
  rw [if_pos (mayB_iff.2 hs.ok), hw, he, len_rok hs, if_neg (by omega), if_pos (by simp; omega)]
theorem bytes_end {l : List Sp} {s : Sp} (hs : ROk s) : bytesL (l ++ [s]) = bytesL l + (s.2 - s.1) := by rw [bytes_append, bytes_cons, bytes_nil, len_rok hs]; omega
/-- the sets that are filled -/
structure FS (w : World) (B : Nat) (S : List Nat) (l : List Sp) (k : Nat) (P : Int) (X : World) : Prop where
  own : Own B l S X
  rn : Rn l
  len : l.length = k
  lt : ∀ x ∈ l, x.2 < P
  gt : ∀ b ∈ S, w.heap.size ≤ b
  below : Below w.heap.size w X
theorem FS.later {w : World} {B k : Nat} {S : List Nat} {l : List Sp} {P : Int} {X Y : World} (h : FS w B S l k P X) (hb : Below X.heap.size X Y) : FS w B S l k P Y :=
  ⟨h.own.later hb, h.rn, h.len, h.lt, h.gt, h.below.trans (hb.mono h.below.size)⟩
theorem FS.chg {w : World} {B k k' : Nat} {S S' : List Nat} {l l' : List Sp} {P P' : Int} {X Y : World} (h : FS w B S l k P X) (ho : Own B l' S' Y) (hr : Rn l') (hl : l'.length = k') (hlt : ∀ x ∈ l', x.2 < P') (hk : Kept S X Y) (hn : ∀ b ∈ S', b ∈ S ∨ X.heap.size ≤ b) : FS w B S' l' k' P' Y :=
  ⟨ho, hr, hl, hlt, fun b hb => by rcases hn b hb with e | e; exact h.gt b e; (have := h.below.size; omega), h.below.trans (hk.below (B := w.heap.size) h.gt h.below.size)⟩
def FRel (w : World) (B k : Nat) (P : Int) (X : World) : Prop := ∃ S l, FS w B S l k P X
/-- the great set: its first run is of five -/
def GRel (w : World) (B k : Nat) (X : World) : Prop := ∃ S t, FS w B S ((0, 5) :: t) k (10 * (k : Int)) X ∧ bytesL ((0, 5) :: t) = 4 + (k : Int)
theorem wo_far : ∀ {t : List Sp}, (∀ x ∈ t, ROk x ∧ 3 ≤ x.1) → woL t (2, 3) = t ∧ withinL t (2, 3) = 0 := by
  intro t
  induction t with
  | nil => intro _; exact ⟨rfl, rfl⟩
  | cons x t ih =>
    intro h
    obtain ⟨h1, h2⟩ := h x (by simp)
    obtain ⟨i1, i2⟩ := ih (fun y hy => h y (List.mem_cons_of_mem _ hy))
    have hx := h1.2.1
    have hs : ROk (2, 3) := ⟨by decide, by decide, by decide⟩
    refine ⟨?_, ?_⟩
    · rw [wo_cons, i1, below_rok h1.ok, from_rok h1.ok]
      have e1 : betw x.1 (min x.2 ((2, 3) : Sp).1) = (0, 0) := by unfold betw; rw [if_pos (by simp only; omega)]
      have e2 : betw (max x.1 ((2, 3) : Sp).2) x.2 = x := by unfold betw; rw [if_neg (by simp only; omega), show max x.1 ((2, 3) : Sp).2 = x.1 by simp only; omega]
      rw [e1, e2]
      unfold ne
      rw [if_pos (by simp [lenI, fitP, mayB]), if_neg (by rw [len_rok h1]; omega)]
      rfl
    · rw [within_cons, i2, meet_len h1.ok hs.ok, if_neg (by simp only; omega)]
      rfl
theorem great_rem {t : List Sp} (h : Rn ((0, 5) :: t)) (hn : ((0, 5) :: t : List Sp).length = 4096) : remN ((0, 5) :: t) (2, 3) = (0, 4, (0, 5) :: t) ∧ runB ((0, 5) :: t) 2 = true := by
  obtain ⟨f1, f2⟩ := wo_far (t := t) (fun x hx => ⟨h.ok x (by simp [hx]), by have := h.lt hx; simp only at this; omega⟩)
  have hw : withinL ((0, 5) :: t) (2, 3) = 1 := by rw [within_cons, f2]; decide
  have he : refWo ((0, 5) :: t) (2, 3) = [(0, 2), (3, 5)] ++ t := by
    unfold refWo
    rw [if_neg (by decide), wo_cons, f1]
    congr 1
  refine ⟨?_, ?_⟩
  · unfold remN
    rw [if_pos (by decide), hw, he, if_neg (by decide), if_pos (by simp at hn ⊢; omega)]
  · rw [runB_iff h]; exact ⟨(0, 5), by simp, by decide, by decide⟩
set_option maxRecDepth 100000 in
set_option maxHeartbeats 4000000 in
theorem walk_RunsFull (w : World) (st : Int) (hst : 0 ≤ st ∧ st ≤ 255) :
    Calls Try.prog 7 #[.int .u8 st] w fun e w' => e = .returned (.bool true) ∧ Below w.heap.size w w' := by
  obtain ⟨s0, s1⟩ := hst
  obtain ⟨W, hW⟩ : ∃ W, 3 + st % 9 = W := ⟨_, rfl⟩
  have hW1 : 3 ≤ W ∧ W ≤ 11 := by omega
  obtain ⟨d, hd⟩ : ∃ d, st % 3 % (W - 2) = d := ⟨_, rfl⟩
  have hd0 : 0 ≤ d := by rw [← hd]; exact Int.emod_nonneg _ (by omega)
  have hd1 : d < W - 2 := by rw [← hd]; exact Int.emod_lt_of_pos _ (by omega)
  obtain ⟨w0, w1'⟩ := hW1
  go_enter Try.func7, Try.ntmps7
  go_wp2_with fail
  refine (known_any _).mono ?_
  rintro e w1 ⟨rfl, h1⟩
  go_wp2_with fail
  refine (new_own _).mono ?_
  rintro e w2 ⟨B, S, rfl, o2, h2, n2⟩
  have hb12 := h1.trans (h2.mono h1.size)
  have HF : Hid (FRel w B 0 (W * ((0 : Nat) : Int)) w2) := Lib.hid ⟨S, [], o2, Rn.nil, rfl, by simp, fun b hb => by have := n2 b hb; have := h1.size; omega, hb12⟩
  clear o2 h2 n2 h1 hb12
  go_wp2_with fail
  go_loopw [5] (fun i wr => ∃ k : Nat, k ≤ 4096 ∧ i = .int .i64 k ∧ Hid (FRel w B k (W * (k : Int)) wr)) (fun i _ => 4096 - (intOf i).toNat)
  case atStart => exact ⟨0, Nat.zero_le _, rfl, HF⟩
  case round =>
    obtain ⟨k, hk, rfl, HR⟩ := hrel
    by_cases hlt : k < 4096
    · obtain ⟨S1, l, F1⟩ := HR.out
      have hP0 : 0 ≤ W * (k : Int) := Int.mul_nonneg (by omega) (by omega)
      have hP1 : W * (k : Int) ≤ 11 * (k : Int) := Int.mul_le_mul_of_nonneg_right (by omega) (by omega)
      have hP2 : W * ((k + 1 : Nat) : Int) = W * (k : Int) + W := by rw [show ((k + 1 : Nat) : Int) = (k : Int) + 1 by omega, Int.mul_add, Int.mul_one]
      have HP2 := Lib.hid hP2
      obtain ⟨P, hP⟩ : ∃ P, W * (k : Int) = P := ⟨_, rfl⟩
      rw [hP] at hP0 hP1 HP2 F1
      have hs : ROk (P, P + 2 + d) := ⟨hP0, by simp only; omega, by simp only; omega⟩
      have ha := addN_end (s := (P, P + 2 + d)) F1.rn hs F1.lt (by have := F1.len; omega)
      have hrn := addN_rn (l := l) (s := (P, P + 2 + d)) F1.rn
      have HA := Lib.hid (add_own F1.own F1.rn (by have := F1.len; omega) (P, P + 2 + d))
      rw [ha] at HA hrn
      simp only [show P + 2 + d - P = 2 + d by omega] at HA
      have HN := Lib.hid (fun S' Y (o5 : Own B (l ++ [(P, P + 2 + d)]) S' Y) (k5 : Kept S1 wr Y) (n5 : ∀ b ∈ S', b ∈ S1 ∨ wr.heap.size ≤ b) => show FRel w B (k + 1) (W * ((k + 1 : Nat) : Int)) Y from ⟨S', l ++ [(P, P + 2 + d)], F1.chg o5 hrn (by simp [F1.len]) (fun x hx => by
        rw [HP2.out]
        rcases List.mem_append.1 hx with h | h
        · have := F1.lt x h; omega
        · simp at h; subst h; simp only; omega) k5 n5⟩)
      clear F1 hs ha hrn hP2 HR
      go_wp2_with fail
      refine HA.out.mono ?_
      rintro e w5 ⟨rfl, S5, o5, k5, n5⟩
      have HK5 := Lib.hid (HN.out S5 w5 o5 k5 n5)
      clear o5 k5 n5 HA HN
      go_wp2_with fail
      go_roundw
      case rel => exact ⟨k + 1, by omega, by go_num, HK5⟩
      case measure => simp [intOf]; omega
    · obtain rfl : k = 4096 := by omega
      obtain ⟨S1, l, F1⟩ := HR.out
      have hP0 : 0 ≤ W * ((4096 : Nat) : Int) := Int.mul_nonneg (by omega) (by omega)
      have e4 : W * ((4096 : Nat) : Int) = W * 4096 := rfl
      rw [e4] at F1
      have hs : ROk (W * 4096, W * 4096 + 1) := ⟨by simp only; omega, by simp only; omega, by simp only; omega⟩
      have ha := addN_full (s := (W * 4096, W * 4096 + 1)) F1.rn hs F1.lt F1.len
      have HA := Lib.hid (add_own F1.own F1.rn (by rw [F1.len]; decide) (W * 4096, W * 4096 + 1))
      rw [ha] at HA
      have HF1 := Lib.hid F1
      clear F1 hs ha HR hP0 e4 hlt
      go_wp2_with fail
      refine HA.out.mono ?_
      rintro e w5 ⟨rfl, S5, o5, k5, n5⟩
      have F5 := HF1.out.chg o5 HF1.out.rn HF1.out.len HF1.out.lt k5 n5
      have HL := Lib.hid (len_own F5.own)
      rw [F5.len] at HL
      have HB5 := Lib.hid F5.below
      clear o5 k5 n5 HA HF1 F5
      go_wp2_with (go_at_call 15; refine HL.out.mono ?_; rintro e w6 ⟨rfl, rfl⟩)
      refine (new_own _).mono ?_
      rintro e w7 ⟨B7, S7, rfl, o7, h7, n7⟩
      have b57 := HB5.out.trans (h7.mono HB5.out.size)
      have F7 : FS w B7 S7 [] 0 0 w7 := ⟨o7, Rn.nil, rfl, by simp, fun b hb => by have := n7 b hb; have := HB5.out.size; omega, b57⟩
      have ha7 : addN [] (0, 5) = (5, 0, [(0, 5)]) := by decide
      have HA7 := Lib.hid (add_own o7 Rn.nil (by decide) (0, 5))
      rw [ha7] at HA7
      have HF7 := Lib.hid F7
      clear o7 h7 n7 b57 F7 HL HB5 ha7
      go_wp2_with fail
      refine HA7.out.mono ?_
      rintro e w8 ⟨rfl, S8, o8, k8, n8⟩
      have hr8 : Rn [(0, 5)] := ⟨fun x hx => by simp at hx; subst hx; exact ⟨by decide, by decide, by decide⟩, List.pairwise_singleton _ _⟩
      have HG : Hid (GRel w B7 1 w8) := Lib.hid ⟨S8, [], HF7.out.chg o8 hr8 rfl (by simp) k8 n8, by decide⟩
      clear o8 k8 n8 hr8 HF7 HA7
      go_wp2_with fail
      go_loopw [11] (fun i wr => ∃ k : Nat, 1 ≤ k ∧ k ≤ 4096 ∧ i = .int .i64 k ∧ Hid (GRel w B7 k wr)) (fun i _ => 4096 - (intOf i).toNat)
      case atStart => exact ⟨1, by decide, by decide, rfl, HG⟩
      case round =>
        obtain ⟨k, hk1, hk, rfl, HR⟩ := hrel
        by_cases hlt : k < 4096
        · obtain ⟨S9, t9, F9, hby⟩ := HR.out
          have hs : ROk (10 * (k : Int), 10 * (k : Int) + 1) := ⟨by simp only; omega, by simp only; omega, by simp only; omega⟩
          have ha := addN_end (s := (10 * (k : Int), 10 * (k : Int) + 1)) F9.rn hs F9.lt (by have := F9.len; omega)
          have hrn := addN_rn (l := (0, 5) :: t9) (s := (10 * (k : Int), 10 * (k : Int) + 1)) F9.rn
          have HA := Lib.hid (add_own F9.own F9.rn (by have := F9.len; omega) (10 * (k : Int), 10 * (k : Int) + 1))
          rw [ha] at HA hrn
          have hbe := bytes_end (l := (0, 5) :: t9) hs
          have HN := Lib.hid (fun S' Y (o5 : Own B7 ((0, 5) :: t9 ++ [(10 * (k : Int), 10 * (k : Int) + 1)]) S' Y) (k5 : Kept S9 wr Y) (n5 : ∀ b ∈ S', b ∈ S9 ∨ wr.heap.size ≤ b) => show GRel w B7 (k + 1) Y from ⟨S', t9 ++ [(10 * (k : Int), 10 * (k : Int) + 1)], F9.chg o5 hrn (by have := F9.len; simp at this ⊢; omega) (fun x hx => by
            rw [← List.cons_append] at hx
            rcases List.mem_append.1 hx with h | h
            · have := F9.lt x h; omega
            · simp at h; subst h; simp only; omega) k5 n5, by
            show bytesL ((0, 5) :: t9 ++ [(10 * (k : Int), 10 * (k : Int) + 1)]) = _
            rw [hbe, hby]; simp only; omega⟩)
          clear F9 hs ha hrn HR hbe hby
          go_wp2_with fail
          refine HA.out.mono ?_
          rintro e w10 ⟨rfl, S10, o10, k10, n10⟩
          have HK := Lib.hid (HN.out S10 w10 o10 k10 n10)
          clear o10 k10 n10 HA HN
          go_wp2_with fail
          go_roundw
          case rel => exact ⟨k + 1, by omega, by omega, by go_num, HK⟩
          case measure => simp [intOf]; omega
        · obtain rfl : k = 4096 := by omega
          obtain ⟨S9, t9, F9, hby⟩ := HR.out
          obtain ⟨hrem, hrun⟩ := great_rem F9.rn F9.len
          have HA := Lib.hid (rem_own F9.own F9.rn (by rw [F9.len]; decide) (2, 3))
          rw [hrem] at HA
          have HF9 := Lib.hid F9
          have HBY := Lib.hid hby
          have HRUN := Lib.hid hrun
          clear F9 hby hrem hrun HR hlt
          go_wp2_with fail
          refine HA.out.mono ?_
          rintro e w11 ⟨rfl, S11, o11, k11, n11⟩
          have F11 := HF9.out.chg o11 HF9.out.rn HF9.out.len HF9.out.lt k11 n11
          have HHA := Lib.hid (has_own F11.own F11.rn (by rw [F11.len]; decide) 2)
          have HHB := Lib.hid (fun X (hX : Below w11.heap.size w11 X) => bytes_own (F11.own.later hX) F11.rn (by rw [F11.len]; decide))
          rw [show decide (0 < lenI (runL ((0, 5) :: t9) 2)) = runB ((0, 5) :: t9) 2 from rfl, HRUN.out] at HHA
          rw [HBY.out] at HHB
          have HB11 := Lib.hid F11.below
          clear o11 k11 n11 HA HF9 F11
          go_wp2_with (first
            | (go_at_call 22; refine HHA.out.mono ?_; rintro e w12 ⟨rfl, h12⟩)
            | (go_at_call 16; refine (HHB.out _ h12).mono ?_; rintro e w13 ⟨rfl, h13⟩)
            | (go_at_call 10; refine (known_any _).mono ?_; rintro e w14 ⟨rfl, h14⟩))
          go_ret
          exact ⟨rfl, HB11.out.trans ((h12.trans ((h13.trans (h14.mono h13.size)).mono h12.size)).mono HB11.out.size)⟩
end Go.Proofs.Ytdadcbelbkhgoaa.rn
