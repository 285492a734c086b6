/-
  The law's does: an operation with both.
-/
import Derived.Test.YtgjkbejlfclpoaaRunK
import Derived.Test.YtgjkbejlfclpoaaRunO
import Derived.Test.YtgjkbejlfclpoaaRunWi
namespace Go.Proofs.Ytgjkbejlfclpoaa.rn
open Go.RowKit Go.Shelf aid mem rng sp
attribute [local go_sem ↓] Go.wp_at_zero Go.wp_at_succ
set_option linter.unusedVariables false
set_option linter.unusedSimpArgs false

def opN (l : List Sp) (q : OpV) : Int × Int × List Sp := if q.out then remN l q.s else addN l q.s
def opL (l : List Sp) (q : OpV) : List Sp := if q.out then refWo l q.s else refWi l q.s
theorem len_bad {s : Sp} (h : mayB s.1 s.2 = false) : lenI s = 0 := by
  unfold lenI fitP; rw [if_neg (by rw [h]; simp)]; rfl
theorem opL_bad {l : List Sp} {q : OpV} (h : mayB q.s.1 q.s.2 = false) : opL l q = l := by
  unfold opL refWo refWi; rw [if_pos (len_bad h), if_pos (len_bad h)]; split <;> rfl
theorem opN_bad {l : List Sp} {q : OpV} (h : mayB q.s.1 q.s.2 = false) : opN l q = (0, 3, l) := by
  unfold opN remN addN
  have h' : ¬ mayB q.s.1 q.s.2 = true := by rw [h]; simp
  simp only [if_neg h', ite_self]
theorem opL_len {l : List Sp} (hl : Rn l) (q : OpV) : (opL l q).length ≤ l.length + 1 := by
  cases h : mayB q.s.1 q.s.2
  · rw [opL_bad h]; omega
  · unfold opL; split
    · exact wo_len l q.s hl (mayB_iff.1 h)
    · exact wi_len l q.s hl (mayB_iff.1 h)
theorem opL_rn {l : List Sp} (hl : Rn l) (q : OpV) : Rn (opL l q) := by
  cases h : mayB q.s.1 q.s.2
  · rw [opL_bad h]; exact hl
  · unfold opL; split
    · exact wo_rn hl (mayB_iff.1 h)
    · exact wi_rn hl (mayB_iff.1 h)
theorem opN_list {l : List Sp} (hl : Rn l) (hn : l.length ≤ 4000) (q : OpV) : (opN l q).2.2 = opL l q := by
  cases h : mayB q.s.1 q.s.2
  · rw [opN_bad h, opL_bad h]
  · have hlen := opL_len hl q
    unfold opN opL at *
    split
    · rename_i ho; rw [if_pos ho] at hlen; rw [remN_ok hl (mayB_iff.1 h) (by omega)]
    · rename_i ho; rw [if_neg ho] at hlen; rw [addN_ok hl (mayB_iff.1 h) (by omega)]
/-- what does hands back -/
def Doe (B : Nat) (S : List Nat) (L : List Sp) (w : World) (e : Ending) (w' : World) : Prop :=
  ∃ a n cap S', e = .returned (.tuple #[.slice a n cap, .bool true]) ∧ SlS w' a n cap L ∧ Own B L S' w' ∧ Kept S w w' ∧ (∀ b ∈ S', b ∈ S ∨ w.heap.size ≤ b) ∧ ∀ x, a = some x → 0 < n → x.block ∉ S'
structure DB (w : World) (bo : Nat) (q : OpV) (X : World) : Prop where
  op : X.heap[bo]? = some (.cells #[.bool q.out, .int .i64 q.s.1, .int .i64 q.s.2] 32 (0, 0))
  ge : w.heap.size ≤ bo
theorem DB.later {w : World} {bo : Nat} {q : OpV} {X Y : World} (h : DB w bo q X) (hb : Below X.heap.size X Y) : DB w bo q Y := ⟨(hb.block _ (lt_of_block h.op)).trans h.op, h.ge⟩
theorem DB.kept {w : World} {bo : Nat} {q : OpV} {X Y : World} {S : List Nat} (h : DB w bo q X) (hk : Kept S X Y) (hS : ∀ b ∈ S, b < w.heap.size) : DB w bo q Y := ⟨hk.heap (fun e => by have := hS bo e; have := h.ge; omega) h.op, h.ge⟩
theorem DB.cells {w : World} {bo : Nat} {q : OpV} {X : World} (h : DB w bo q X) : X.cell? ⟨bo, 0, none⟩ = some (.bool q.out) ∧ X.cell? ⟨bo, 1, none⟩ = some (.int .i64 q.s.1) ∧ X.cell? ⟨bo, 2, none⟩ = some (.int .i64 q.s.2) := ⟨cofr h.op 0 _ rfl, cofr h.op 1 _ rfl, cofr h.op 2 _ rfl⟩
set_option maxHeartbeats 4000000 in
theorem does_any {w : World} {B : Nat} {L : List Sp} {S : List Nat} (hO : Own B L S w) (hL : Rn L) (hn : L.length ≤ 4000) {a : Option Addr} {n cap : Nat} (hsl : SlS w a n cap L) (hd : ∀ x, a = some x → 0 < n → x.block ∉ S) (q : OpV) :
    Calls Try.prog 7 #[.pointer (some ⟨B, 0, none⟩), .slice a n cap, .agg #[.bool q.out, .int .i64 q.s.1, .int .i64 q.s.2]] w (Doe B S (opL L q) w) := by
  have hlen := hsl.len
  have hSw := hO.lt
  have b1 := bal (w := w) (.cells #[.bool q.out, .int .i64 q.s.1, .int .i64 q.s.2] 32)
  have x1 : DB w w.heap.size q (w.alloc (.cells #[.bool q.out, .int .i64 q.s.1, .int .i64 q.s.2] 32)) := ⟨heap_alloc_new w _, Nat.le_refl _⟩
  have HX := Lib.hid (And.intro b1 x1)
  have hW := opL_rn hL q
  have hWl := opL_len hL q
  have HBB := Lib.hid (And.intro hL.bytes hW.bytes)
  have HL := Lib.hid (And.intro hsl (And.intro hO (And.intro hL hW)))
  have hON := opN_list hL hn q
  have hOW := Lib.hid (show (mayB q.s.1 q.s.2 = true → opN L q = ((if q.out then bytesL L - bytesL (opL L q) else bytesL (opL L q) - bytesL L), 0, opL L q)) ∧ (mayB q.s.1 q.s.2 = false → opN L q = (0, 3, L) ∧ opL L q = L) from
    ⟨fun h => by
      unfold opN opL at *
      cases ho : q.out
      · rw [ho] at hWl hON
        simp only [Bool.false_eq_true, if_false] at hWl hON ⊢
        exact addN_ok hL (mayB_iff.1 h) (by omega)
      · rw [ho] at hWl hON
        simp only [if_true] at hWl hON ⊢
        exact remN_ok hL (mayB_iff.1 h) (by omega), fun h => ⟨opN_bad h, opL_bad h⟩⟩)
  have HD := Lib.hid (And.intro hd hSw)
  have HMAY := Lib.hid (fun X => rmay_any q.s X)
  obtain ⟨c0, c1, c2⟩ := x1.cells
  have HWI := Lib.hid (fun (h : q.out = false) => show opL L q = refWi L q.s from by unfold opL; rw [if_neg (by rw [h]; simp)])
  have HWO := Lib.hid (fun (h : q.out = true) => show opL L q = refWo L q.s from by unfold opL; rw [if_pos h])
  have HAD := Lib.hid (fun (h : q.out = false) => show opN L q = addN L q.s from by unfold opN; rw [if_neg (by rw [h]; simp)])
  have HRM := Lib.hid (fun (h : q.out = true) => show opN L q = remN L q.s from by unfold opN; rw [if_pos h])
  clear b1 x1 hL hW hWl hON hd hSw hsl hO
  generalize mayB q.s.1 q.s.2 = mb at *
  obtain ⟨out, s⟩ := q
  dsimp only at *
  go_enter Try.func7, Try.ntmps7
  go_wp2_with fail
  refine (rwith_any (HL.out.1.later HX.out.1) (by omega) s).mono ?_
  rintro e w2 ⟨a2, n2, cap2, rfl, sl2, h2, f2⟩
  have D2 := HX.out.2.later h2
  have hb2 := HX.out.1.trans (h2.mono HX.out.1.size)
  clear c0 c1 c2 h2
  cases out
  · have e1 := HWI.out (by trivial)
    rw [← e1] at sl2
    have HT2 := Lib.hid (And.intro sl2 (fun x hx => f2 x hx))
    have HDB := Lib.hid (And.intro D2 hb2)
    have hBB := HBB.out
    clear sl2 f2 D2 hb2 HX e1 HWI HWO HRM
    simp only [Bool.false_eq_true, if_false] at hOW
    go_wp2_with fail
    refine (rbytes_any HT2.out.1 HL.out.2.2.2).mono ?_
    rintro e w3 ⟨rfl, h3⟩
    go_wp2_with fail
    refine (rbytes_any (HL.out.1.later (HDB.out.2.trans (h3.mono HDB.out.2.size))) HL.out.2.2.1).mono ?_
    rintro e w4 ⟨rfl, h4⟩
    have b24 := h3.trans (h4.mono h3.size)
    have D4 := HDB.out.1.later b24
    have b4 := HDB.out.2.trans (b24.mono HDB.out.2.size)
    have sl4 := HT2.out.1.later b24
    obtain ⟨c0, c1, c2⟩ := D4.cells
    have HA := Lib.hid (add_own (HL.out.2.1.later b4) HL.out.2.2.1 (by omega) s)
    rw [← HAD.out (by trivial)] at HA
    have H4 := Lib.hid (And.intro D4 (And.intro b4 sl4))
    clear D4 b4 sl4 b24 h3 h4 HAD
    go_wp2_with fail
    refine HA.out.mono ?_
    rintro e w5 ⟨rfl, S5, o5, k5, n5⟩
    have D5 := H4.out.1.kept k5 HD.out.2
    obtain ⟨c0, c1, c2⟩ := D5.cells
    have hf : ∀ x, a2 = some x → 0 < n2 → x.block ∉ S5 ∧ x.block ∉ S := fun x hx h0 => by
      obtain ⟨g, off, hg, hc⟩ := H4.out.2.2.cells h0
      obtain rfl : x = ⟨g, off, none⟩ := by rw [hx] at hg; exact Option.some.inj hg
      have hlt := World.block_lt_of_cell? w4 _ (hc 0 h0).1
      simp only at hlt ⊢
      have hS : g ∉ S := by
        rcases HT2.out.2 _ hx with ⟨e1, e2⟩ | e1
        · exact HD.out.1 _ e1 (by omega)
        · intro hs; have := HD.out.2 g hs; simp at e1; omega
      refine ⟨fun hs => ?_, hS⟩
      rcases n5 g hs with e | e
      · exact hS e
      · omega
    have hk5 : Kept S w w5 := (Kept.of_below H4.out.2.1 (Nat.le_refl _) S).trans k5 (fun _ h => .inl h)
    have hn5 : ∀ b ∈ S5, b ∈ S ∨ w.heap.size ≤ b := fun b hb => by
      rcases n5 b hb with e | e
      · exact .inl e
      · have := H4.out.2.1.size; exact .inr (by omega)
    have sl5 := H4.out.2.2.keep k5 (fun x hx h0 => (hf x hx h0).2)
    have H5 := Lib.hid (And.intro o5 (And.intro hk5 (And.intro hn5 (And.intro sl5 (fun x hx h0 => (hf x hx h0).1)))))
    clear o5 k5 n5 D5 hf hk5 hn5 sl5 HA H4 HT2 HDB
    cases mb
    · obtain ⟨e1, e2⟩ := hOW.out.2 (by trivial)
      rw [e1] at H5 ⊢
      dsimp only at H5
      have HLE := Lib.hid e2
      clear e1 e2 hOW
      go_wp2_with fail
      refine (HMAY.out _).mono ?_
      rintro e w6 ⟨rfl, h6⟩
      have HF : Hid (Doe B S (opL L { out := false, s := s }) w (.returned (.tuple #[.slice a n cap, .bool true])) w6) := Lib.hid (by
        rw [HLE.out]
        refine ⟨a, n, cap, S5, rfl, ?_, H5.out.1.later h6, (H5.out.2.1.trans (Kept.of_below h6 (Nat.le_refl _) S) (fun _ h => .inl h)), H5.out.2.2.1, ?_⟩
        · exact (HL.out.1.keep H5.out.2.1 (fun x hx h0 => HD.out.1 x hx h0)).later h6
        · intro x hx h0 hs
          obtain ⟨g, off, hg, hc⟩ := HL.out.1.cells h0
          obtain rfl : x = ⟨g, off, none⟩ := by rw [hx] at hg; exact Option.some.inj hg
          have hlt := World.block_lt_of_cell? w _ (hc 0 h0).1
          simp only at hlt hs
          rcases H5.out.2.2.1 g hs with e | e
          · exact HD.out.1 _ hx h0 e
          · omega)
      clear H5 c0 c1 c2 h6 HLE HL HD
      go_wp2_with fail
      go_ret2
      exact HF.out
    · have e1 := hOW.out.1 (by trivial)
      rw [e1] at H5 ⊢
      dsimp only at H5
      clear e1 hOW
      generalize bytesL (opL L { out := false, s := s }) = z1 at *
      generalize bytesL L = z2 at *
      go_wp2_with fail
      refine (HMAY.out _).mono ?_
      rintro e w6 ⟨rfl, h6⟩
      have HF : Hid (Doe B S (opL L { out := false, s := s }) w (.returned (.tuple #[.slice a2 n2 cap2, .bool true])) w6) := Lib.hid 
        ⟨a2, n2, cap2, S5, rfl, H5.out.2.2.2.1.later h6, H5.out.1.later h6, (H5.out.2.1.trans (Kept.of_below h6 (Nat.le_refl _) S) (fun _ h => .inl h)), H5.out.2.2.1, H5.out.2.2.2.2⟩
      clear H5 c0 c1 c2 h6 HL HD
      go_wp2_with fail
      go_ret2
      simpa using HF.out
  · have e1 := HWO.out (by trivial)
    have e2 := HL.out.2.2.1
    have rw2 : Rn (refWi L s) := opL_rn e2 ⟨false, s⟩
    have HT2 := Lib.hid (And.intro sl2 rw2)
    have hB2 := rw2.bytes
    have HDB := Lib.hid (And.intro D2 hb2)
    have hBB := HBB.out
    clear sl2 f2 D2 hb2 HX HWI HWO HAD rw2 e2
    simp only [if_true] at hOW
    generalize refWi L s = LW at *
    go_wp2_with fail
    refine (rbytes_any HT2.out.1 HT2.out.2).mono ?_
    rintro e w3 ⟨rfl, h3⟩
    go_wp2_with fail
    refine (rbytes_any (HL.out.1.later (HDB.out.2.trans (h3.mono HDB.out.2.size))) HL.out.2.2.1).mono ?_
    rintro e w4 ⟨rfl, h4⟩
    have b24 := h3.trans (h4.mono h3.size)
    have D4 := HDB.out.1.later b24
    have b4 := HDB.out.2.trans (b24.mono HDB.out.2.size)
    obtain ⟨c0, c1, c2⟩ := D4.cells
    have H4' := Lib.hid (And.intro D4 b4)
    clear D4 b4 b24 h3 h4 HDB HT2
    go_wp2_with fail
    refine (rwithout_any (HL.out.1.later H4'.out.2) (by omega) s).mono ?_
    rintro e w6 ⟨a6, n6, cap6, rfl, sl6, h6, f6⟩
    rw [← e1] at sl6
    have D6 := H4'.out.1.later h6
    have b6 := H4'.out.2.trans (h6.mono H4'.out.2.size)
    have HT6 := Lib.hid (And.intro sl6 (fun x hx => (f6 x hx).imp id (fun h => Nat.le_trans H4'.out.2.size h)))
    have H6 := Lib.hid (And.intro D6 b6)
    clear c0 c1 c2 h6 D6 b6 sl6 f6 H4' e1
    go_wp2_with fail
    refine (rbytes_any (HL.out.1.later H6.out.2) HL.out.2.2.1).mono ?_
    rintro e w7 ⟨rfl, h7⟩
    go_wp2_with fail
    refine (rbytes_any (HT6.out.1.later h7) HL.out.2.2.2).mono ?_
    rintro e w4 ⟨rfl, h8⟩
    have b78 := h7.trans (h8.mono h7.size)
    have D4 := H6.out.1.later b78
    have b4 := H6.out.2.trans (b78.mono H6.out.2.size)
    have sl4 := HT6.out.1.later b78
    obtain ⟨c0, c1, c2⟩ := D4.cells
    have HA := Lib.hid (rem_own (HL.out.2.1.later b4) HL.out.2.2.1 (by omega) s)
    rw [← HRM.out (by trivial)] at HA
    clear b78 H6
    have H4 := Lib.hid (And.intro D4 (And.intro b4 sl4))
    clear D4 b4 sl4 h7 h8 HRM
    go_wp2_with fail
    refine HA.out.mono ?_
    rintro e w5 ⟨rfl, S5, o5, k5, n5⟩
    have D5 := H4.out.1.kept k5 HD.out.2
    obtain ⟨c0, c1, c2⟩ := D5.cells
    have hf : ∀ x, a6 = some x → 0 < n6 → x.block ∉ S5 ∧ x.block ∉ S := fun x hx h0 => by
      obtain ⟨g, off, hg, hc⟩ := H4.out.2.2.cells h0
      obtain rfl : x = ⟨g, off, none⟩ := by rw [hx] at hg; exact Option.some.inj hg
      have hlt := World.block_lt_of_cell? w4 _ (hc 0 h0).1
      simp only at hlt ⊢
      have hS : g ∉ S := by
        rcases HT6.out.2 _ hx with ⟨e1, e2⟩ | e1
        · exact HD.out.1 _ e1 (by omega)
        · intro hs; have := HD.out.2 g hs; simp at e1; omega
      refine ⟨fun hs => ?_, hS⟩
      rcases n5 g hs with e | e
      · exact hS e
      · omega
    have hk5 : Kept S w w5 := (Kept.of_below H4.out.2.1 (Nat.le_refl _) S).trans k5 (fun _ h => .inl h)
    have hn5 : ∀ b ∈ S5, b ∈ S ∨ w.heap.size ≤ b := fun b hb => by
      rcases n5 b hb with e | e
      · exact .inl e
      · have := H4.out.2.1.size; exact .inr (by omega)
    have sl5 := H4.out.2.2.keep k5 (fun x hx h0 => (hf x hx h0).2)
    have H5 := Lib.hid (And.intro o5 (And.intro hk5 (And.intro hn5 (And.intro sl5 (fun x hx h0 => (hf x hx h0).1)))))
    clear o5 k5 n5 D5 hf hk5 hn5 sl5 HA H4 HT6
    cases mb
    · obtain ⟨e1, e2⟩ := hOW.out.2 (by trivial)
      rw [e1] at H5 ⊢
      dsimp only at H5
      have HLE := Lib.hid e2
      clear e1 e2 hOW
      go_wp2_with fail
      refine (HMAY.out _).mono ?_
      rintro e w6 ⟨rfl, h6⟩
      have HF : Hid (Doe B S (opL L { out := true, s := s }) w (.returned (.tuple #[.slice a n cap, .bool true])) w6) := Lib.hid (by
        rw [HLE.out]
        refine ⟨a, n, cap, S5, rfl, ?_, H5.out.1.later h6, (H5.out.2.1.trans (Kept.of_below h6 (Nat.le_refl _) S) (fun _ h => .inl h)), H5.out.2.2.1, ?_⟩
        · exact (HL.out.1.keep H5.out.2.1 (fun x hx h0 => HD.out.1 x hx h0)).later h6
        · intro x hx h0 hs
          obtain ⟨g, off, hg, hc⟩ := HL.out.1.cells h0
          obtain rfl : x = ⟨g, off, none⟩ := by rw [hx] at hg; exact Option.some.inj hg
          have hlt := World.block_lt_of_cell? w _ (hc 0 h0).1
          simp only at hlt hs
          rcases H5.out.2.2.1 g hs with e | e
          · exact HD.out.1 _ hx h0 e
          · omega)
      clear H5 c0 c1 c2 h6 HLE HL HD
      go_wp2_with fail
      go_ret2
      exact HF.out
    · have e1 := hOW.out.1 (by trivial)
      rw [e1] at H5 ⊢
      dsimp only at H5
      clear e1 hOW
      generalize bytesL (opL L { out := true, s := s }) = z1 at *
      generalize bytesL L = z2 at *
      go_wp2_with fail
      refine (HMAY.out _).mono ?_
      rintro e w6 ⟨rfl, h6⟩
      have HF : Hid (Doe B S (opL L { out := true, s := s }) w (.returned (.tuple #[.slice a6 n6 cap6, .bool true])) w6) := Lib.hid 
        ⟨a6, n6, cap6, S5, rfl, H5.out.2.2.2.1.later h6, H5.out.1.later h6, (H5.out.2.1.trans (Kept.of_below h6 (Nat.le_refl _) S) (fun _ h => .inl h)), H5.out.2.2.1, H5.out.2.2.2.2⟩
      clear H5 c0 c1 c2 h6 HL HD
      go_wp2_with fail
      go_ret2
      simpa using HF.out
end Go.Proofs.Ytgjkbejlfclpoaa.rn
