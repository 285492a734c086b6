/-
  Sets of one's own; known.
-/
import Derived.Test.YtgjkbejlfclpoaaRunB
import Derived.Test.YtgjkbejlfclpoaaRunI
namespace Go.Proofs.Ytgjkbejlfclpoaa.rn
open Go.RowKit Go.Shelf aid mem rng sp
attribute [local go_sem ↓] Go.wp_at_zero Go.wp_at_succ
set_option linter.unusedVariables false
set_option linter.unusedSimpArgs false

/-- a set at B, whose blocks are S -/
def Own (B : Nat) (l : List Sp) (S : List Nat) (C : World) : Prop := ∃ a n cap, RnAt C B a n cap l ∧ S = B :: blk a cap
theorem Own.lt {B : Nat} {l : List Sp} {S : List Nat} {C : World} (h : Own B l S C) : ∀ b ∈ S, b < C.heap.size := by
  obtain ⟨a, n, cap, h, rfl⟩ := h
  intro b hb
  rcases List.mem_cons.1 hb with rfl | hb
  · exact lt_of_block h.hdr
  · exact (h.row.lt b hb).1
theorem Own.head {B : Nat} {l : List Sp} {S : List Nat} {C : World} (h : Own B l S C) : B ∈ S := by
  obtain ⟨a, n, cap, h, rfl⟩ := h
  simp
theorem Own.later {B : Nat} {l : List Sp} {S : List Nat} {C C' : World} (h : Own B l S C) (hb : Below C.heap.size C C') : Own B l S C' := by
  obtain ⟨a, n, cap, h, rfl⟩ := h
  exact ⟨a, n, cap, h.later hb, rfl⟩
theorem Own.keep {B : Nat} {l : List Sp} {S T : List Nat} {C C' : World} (h : Own B l S C) (hk : Kept T C C') (hd : ∀ b ∈ S, b ∉ T) : Own B l S C' := by
  obtain ⟨a, n, cap, h, rfl⟩ := h
  exact ⟨a, n, cap, ⟨hk.heap (hd B (by simp)) h.hdr, h.row.keep hk (fun b hb => hd b (by simp [hb]))⟩, rfl⟩
theorem Own.steps {B : Nat} {l : List Sp} {S : List Nat} {C C' : World} (h : Own B l S C) {K : Nat → Prop} (hs : rng.Steps K C C') (hK : ∀ b ∈ S, K b) : Own B l S C' := by
  obtain ⟨a, n, cap, h, rfl⟩ := h
  refine ⟨a, n, cap, ⟨hs.heap (hK B (by simp)) h.hdr, h.row.len, h.row.le, h.row.most, fun h0 => ?_⟩, rfl⟩
  obtain ⟨g, off, cur, rfl, hg, h1, h2⟩ := h.row.rest h0
  exact ⟨g, off, cur, rfl, hs.heap (hK g (by rw [blk_some _ _ _ h0]; simp)) hg, h1, h2⟩
theorem Own.rv {B : Nat} {l : List Sp} {S : List Nat} {C : World} (h : Own B l S C) : ∃ a n cap, Rv C (.pointer (some ⟨B, 0, none⟩)) a n cap l ∧ l.length = n ∧ ∀ b ∈ blk a cap, b ∈ S := by
  obtain ⟨a, n, cap, h, rfl⟩ := h
  exact ⟨a, n, cap, h.rv, row_len h.row, fun b hb => by simp [hb]⟩
/-- a new one -/
def RetO (l : List Sp) (w : World) (e : Ending) (w' : World) : Prop := ∃ B S, e = .returned (.pointer (some ⟨B, 0, none⟩)) ∧ Own B l S w' ∧ Below w.heap.size w w' ∧ ∀ b ∈ S, w.heap.size ≤ b
theorem ret_own {l : List Sp} {w w' : World} {e : Ending} (h : RetR l w e w') : RetO l w e w' := by
  obtain ⟨B, a, n, cap, h1, h2, h3, h4, h5⟩ := h
  exact ⟨B, B :: blk a cap, h1, ⟨a, n, cap, h2, rfl⟩, h3, fun b hb => by rcases List.mem_cons.1 hb with rfl | hb; exact h4; exact h5 b hb⟩
theorem new_own (w : World) : Calls Try.prog 6 #[] w (RetO [] w) := (new_any w).mono (fun _ _ h => ret_own h)
theorem clone_own {B : Nat} {l : List Sp} {S : List Nat} {w : World} (h : Own B l S w) (hn : l.length ≤ 4096) : Calls Try.prog 27 #[.pointer (some ⟨B, 0, none⟩)] w (RetO l w) := by
  obtain ⟨a, n, cap, h, rfl⟩ := h
  have := row_len h.row
  exact (clone_any h (by omega)).mono (fun _ _ h => ret_own h)
/-- what a change leaves -/
def ChgO (B : Nat) (S : List Nat) (r : Int × Int × List Sp) (w : World) (e : Ending) (w' : World) : Prop := e = .returned (.tuple #[.int .i64 r.1, .int .i64 r.2.1]) ∧ ∃ S', Own B r.2.2 S' w' ∧ Kept S w w' ∧ ∀ b ∈ S', b ∈ S ∨ w.heap.size ≤ b
theorem chg_own {B : Nat} {a : Option Addr} {cap : Nat} {r : Int × Int × List Sp} {w w' : World} {e : Ending} (h : ChgPost B a cap r w e w') : ChgO B (B :: blk a cap) r w e w' := by
  obtain ⟨h1, a', n', cap', h2, h3, h4⟩ := h
  refine ⟨h1, B :: blk a' cap', ⟨a', n', cap', h2, rfl⟩, h3, fun b hb => ?_⟩
  rcases List.mem_cons.1 hb with rfl | hb
  · exact .inl (by simp)
  · rcases h4 b hb with q | q
    · exact .inl (by simp [q])
    · exact .inr q
theorem add_own {B : Nat} {l : List Sp} {S : List Nat} {w : World} (h : Own B l S w) (hl : Rn l) (hn : l.length ≤ 4096) (s : Sp) : Calls Try.prog 25 #[.pointer (some ⟨B, 0, none⟩), spV s] w (ChgO B S (addN l s) w) := by
  obtain ⟨a, n, cap, h, rfl⟩ := h
  have := row_len h.row
  exact (add_any h hl (by omega) s).mono (fun _ _ h => chg_own h)
theorem rem_own {B : Nat} {l : List Sp} {S : List Nat} {w : World} (h : Own B l S w) (hl : Rn l) (hn : l.length ≤ 4096) (s : Sp) : Calls Try.prog 30 #[.pointer (some ⟨B, 0, none⟩), spV s] w (ChgO B S (remN l s) w) := by
  obtain ⟨a, n, cap, h, rfl⟩ := h
  have := row_len h.row
  exact (remove_any h hl (by omega) s).mono (fun _ _ h => chg_own h)
theorem has_own {B : Nat} {l : List Sp} {S : List Nat} {w : World} (h : Own B l S w) (hl : Rn l) (hn : l.length ≤ 4096) (o : Int) : Calls Try.prog 17 #[.pointer (some ⟨B, 0, none⟩), .int .i64 o] w (RetB (decide (0 < lenI (runL l o))) w) := by
  obtain ⟨a, n, cap, h, e, _⟩ := h.rv
  exact has_any' h hl (by omega) o
theorem bytes_own {B : Nat} {l : List Sp} {S : List Nat} {w : World} (h : Own B l S w) (hl : Rn l) (hn : l.length ≤ 4096) : Calls Try.prog 11 #[.pointer (some ⟨B, 0, none⟩)] w (RetI (bytesL l) w) := by
  obtain ⟨a, n, cap, h, e, _⟩ := h.rv
  exact bytes_any h hl (by omega)
theorem within_own {B : Nat} {l : List Sp} {S : List Nat} {w : World} (h : Own B l S w) (hl : Rn l) (hn : l.length ≤ 4096) (s : Sp) : Calls Try.prog 20 #[.pointer (some ⟨B, 0, none⟩), spV s] w (RetI (withinL l s) w) := by
  obtain ⟨a, n, cap, h, e, _⟩ := h.rv
  exact within_any h hl (by omega) s
theorem len_own {B : Nat} {l : List Sp} {S : List Nat} {w : World} (h : Own B l S w) : Calls Try.prog 10 #[.pointer (some ⟨B, 0, none⟩)] w fun e w' => e = .returned (.int .i64 (l.length : Int)) ∧ w = w' := by
  obtain ⟨a, n, cap, h, e, _⟩ := h.rv
  rw [e]
  exact len_any' h
theorem gap_own {B : Nat} {l : List Sp} {S : List Nat} {w : World} (h : Own B l S w) (hl : Rn l) (hn : l.length ≤ 4096) (o : Int) : Calls Try.prog 22 #[.pointer (some ⟨B, 0, none⟩), .int .i64 o] w (RetI (gapL l o) w) := by
  obtain ⟨a, n, cap, h, e, _⟩ := h.rv
  exact gap_any h hl (by omega) o
theorem kn1 : addN [] (2, 5) = (3, 0, [(2, 5)]) := by decide
theorem kn2 : addN [(2, 5)] (7, 9) = (2, 0, [(2, 5), (7, 9)]) := by decide
theorem kn3 : addN [(2, 5), (7, 9)] (5, 7) = (2, 0, [(2, 9)]) := by decide
theorem kn4 : gapL [(2, 9)] 4 = 9 := by decide
theorem kn5 : bytesL [(2, 9)] = 7 := by decide
theorem kr1 : Rn [(2, 5)] := by have := addN_rn (l := []) (s := (2, 5)) Rn.nil; rw [kn1] at this; exact this
theorem kr2 : Rn [(2, 5), (7, 9)] := by have := addN_rn (l := [(2, 5)]) (s := (7, 9)) kr1; rw [kn2] at this; exact this
theorem kr3 : Rn [(2, 9)] := by have := addN_rn (l := [(2, 5), (7, 9)]) (s := (5, 7)) kr2; rw [kn3] at this; exact this
theorem kept_new {S : List Nat} {b : Nat} {w w1 w2 : World} (h : Below b w w1) (hb : b ≤ w.heap.size) (hk : Kept S w1 w2) (hS : ∀ x ∈ S, b ≤ x) : Below b w w2 := h.trans (hk.below hS (by have := h.size; omega))
set_option maxHeartbeats 1000000 in
theorem known_any (w : World) : Calls Try.prog 5 #[] w (RetB true w) := by
  have H1 := Lib.hid (fun B S X (h : Own B [] S X) => (add_own h Rn.nil (by decide) (2, 5)))
  have H2 := Lib.hid (fun B S X (h : Own B [(2, 5)] S X) => (add_own h kr1 (by decide) (7, 9)))
  have H3 := Lib.hid (fun B S X (h : Own B [(2, 5), (7, 9)] S X) => (add_own h kr2 (by decide) (5, 7)))
  rw [kn1] at H1
  rw [kn2] at H2
  rw [kn3] at H3
  go_enter Try.func5, Try.ntmps5
  go_wp2_with fail
  refine (new_own w).mono ?_
  rintro e w1 ⟨B, S1, rfl, o1, b1, n1⟩
  go_wp2_with fail
  refine (H1.out B S1 _ o1).mono ?_
  rintro e w2 ⟨rfl, S2, o2, k2, n2⟩
  have b2 := kept_new b1 (Nat.le_refl _) k2 n1
  have m2 : ∀ b ∈ S2, w.heap.size ≤ b := fun b hb => by rcases n2 b hb with q | q; exact n1 b q; (have := b1.size; omega)
  clear o1 b1 n1 k2 n2
  go_wp2_with fail
  refine (H2.out B S2 _ o2).mono ?_
  rintro e w3 ⟨rfl, S3, o3, k3, n3⟩
  have b3 := kept_new b2 (Nat.le_refl _) k3 m2
  have m3 : ∀ b ∈ S3, w.heap.size ≤ b := fun b hb => by rcases n3 b hb with q | q; exact m2 b q; (have := b2.size; omega)
  clear o2 b2 m2 k3 n3
  go_wp2_with fail
  refine (H3.out B S3 _ o3).mono ?_
  rintro e w4 ⟨rfl, S4, o4, k4, n4⟩
  have b4 := kept_new b3 (Nat.le_refl _) k4 m3
  clear o3 b3 m3 k4 n4
  have HL := Lib.hid (len_own o4)
  have HB := Lib.hid (bytes_own o4 kr3 (by decide))
  have HG := Lib.hid (fun X (hX : Below w4.heap.size w4 X) => gap_own (o4.later hX) kr3 (by decide) 4)
  rw [kn5] at HB
  rw [kn4] at HG
  have HB4 := Lib.hid b4
  clear b4 o4 H1 H2 H3
  go_wp2_with (first
    | (go_at_call 10; refine HL.out.mono ?_; rintro e w5 ⟨rfl, rfl⟩)
    | (go_at_call 11; refine HB.out.mono ?_; rintro e w6 ⟨rfl, h6⟩)
    | (go_at_call 22; refine (HG.out _ h6).mono ?_; rintro e w7 ⟨rfl, h7⟩))
  go_ret
  exact ⟨rfl, HB4.out.trans ((h6.trans (h7.mono h6.size)).mono HB4.out.size)⟩
end Go.Proofs.Ytgjkbejlfclpoaa.rn
