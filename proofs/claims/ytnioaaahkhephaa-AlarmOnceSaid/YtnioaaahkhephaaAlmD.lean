/-
  Alarms: Set, Stop, Next.
-/
import Derived.Test.YtnioaaahkhephaaAlmC
namespace Go.Proofs.Ytnioaaahkhephaa.al
open Go.RowKit Go.Maps aid mem
attribute [local go_sem ↓] Go.wp_at_zero Go.wp_at_succ
set_option linter.unusedVariables false
set_option linter.unusedSimpArgs false

def StopPost (C : Nat) (nm now : Int) (l : List Al) (S : List Nat) (a : Int) (w : World) (e : Ending) (w' : World) : Prop :=
  ∃ b, e = .returned (.bool b) ∧ (b = true ↔ ∃ x ∈ l, x.1 = a) ∧ ChgC C nm now (rm l a) S w w'
set_option maxHeartbeats 2000000 in
theorem stop_any (w : World) {C : Nat} {nm now : Int} {l : List Al} {S : List Nat} (h : Ck C nm now l S w) (hW : Wd l) (hN : (l.map (·.1)).Nodup) (hl : l.length ≤ 90000) (a : Int) (ha : -9223372036854775808 ≤ a ∧ a ≤ 9223372036854775807) :
    Calls Try.prog 18 #[.pointer (some ⟨C, 0, none⟩), .int .i64 a] w (StopPost C nm now l S a w) := by
  have hCk := h
  obtain ⟨v, bm, D, q, p, hh, rfl⟩ := h
  have c3 := cofr q.hdr 3 _ rfl
  rcases q.look p a ha with ⟨i, hi, hna, hrun⟩ | ⟨hna, hrun⟩
  · have HR := Lib.hid ((remove_any q p hW hh hl (i := i) (n := l.length - 1) (by omega) hi).mono (fun e w' hp => show (∃ u, e = .returned u) ∧ StopPost C nm now l (C :: bm :: blkV v) a w (.returned (.bool true)) w' from by
      obtain ⟨hu, l', hc, hp, hh'⟩ := hp
      exact ⟨hu, true, rfl, ⟨fun _ => ⟨g l i, g_mem hi, hna⟩, fun _ => rfl⟩, ChgC.of_q hc hh' (hna ▸ rm_head hp hN)⟩))
    clear q p hh hCk hW hN
    go_enter Try.func18, Try.ntmps18
    go_wp2_with fail
    refine HR.out.mono ?_
    rintro e w1 ⟨⟨u, rfl⟩, hF⟩
    have HF := Lib.hid hF
    clear hF HR c3 hrun
    go_wp2_with fail
    go_ret
    exact HF.out
  · have HF := Lib.hid (show StopPost C nm now l (C :: bm :: blkV v) a w (.returned (.bool false)) w from ⟨false, rfl, ⟨(fun e => by cases e), (fun ⟨x, hx, e⟩ => absurd e (hna x hx))⟩, by rw [rm_none hna]; exact ChgC.same hCk (Below.refl _ _)⟩)
    clear q p hh hCk hW hN hna
    go_enter Try.func18, Try.ntmps18
    go_wp2_with fail
    go_ret
    exact HF.out
theorem stop_nil (w : World) (a : Int) : Calls Try.prog 18 #[.pointer none, .int .i64 a] w (RetB false w) := by
  go_enter Try.func18, Try.ntmps18
  go_wp2_with fail
  go_ret
  exact ⟨rfl, Below.refl _ _⟩
def setR (nm now a t : Int) : Int := if a < 0 ∨ nm ≤ a then 8 else if t < now ∨ 4611686018427387904 < t then 3 else 0
def setL (nm now a t : Int) (l : List Al) : List Al := if setR nm now a t = 0 then (a, t) :: rm l a else l
def SetPost (C : Nat) (nm now : Int) (l : List Al) (S : List Nat) (a t : Int) (w : World) (e : Ending) (w' : World) : Prop :=
  e = .returned (.int .i64 (setR nm now a t)) ∧ ChgC C nm now (setL nm now a t l) S w w'
theorem heap_pair {l : List Al} {i : Nat} (h : HeapN l l.length) (hi : i < l.length) (x : Al) : Dn (l.set i x) (l.set i x).length i i := by
  rw [List.length_set]; exact fix_dn h hi x
set_option maxHeartbeats 2000000 in
theorem set_any (w : World) {C : Nat} {nm now : Int} {l : List Al} {S : List Nat} (h : Ck C nm now l S w) (hO : Okl nm now l) (hn : nm ≤ 64) (hl : l.length ≤ 80000) (a t : Int) (ha : -9223372036854775808 ≤ a ∧ a ≤ 9223372036854775807) :
    Calls Try.prog 17 #[.pointer (some ⟨C, 0, none⟩), .int .i64 a, .int .i64 t] w (SetPost C nm now l S a t w) := by
  have hCk := h
  obtain ⟨v, bm, D, q, p, hh, rfl⟩ := h
  have c0 := cofr q.hdr 0 _ rfl
  have c1 := cofr q.hdr 1 _ rfl
  have c3 := cofr q.hdr 3 _ rfl
  have HS := Lib.hid (ChgC.same hCk (Below.refl _ w))
  by_cases h1 : a < 0
  · have HF := Lib.hid (show SetPost C nm now l (C :: bm :: blkV v) a t w (.returned (.int .i64 8)) w from by unfold SetPost setL setR; rw [if_pos (.inl h1)]; exact ⟨rfl, HS.out⟩)
    clear q p hh hCk hO HS
    go_enter Try.func17, Try.ntmps17
    go_wp2_with fail
    go_ret
    exact HF.out
  by_cases h2 : nm ≤ a
  · have HF := Lib.hid (show SetPost C nm now l (C :: bm :: blkV v) a t w (.returned (.int .i64 8)) w from by unfold SetPost setL setR; rw [if_pos (.inr h2)]; exact ⟨rfl, HS.out⟩)
    clear q p hh hCk hO HS
    go_enter Try.func17, Try.ntmps17
    go_wp2_with fail
    go_ret
    exact HF.out
  by_cases h3 : t < now
  · have HF := Lib.hid (show SetPost C nm now l (C :: bm :: blkV v) a t w (.returned (.int .i64 3)) w from by unfold SetPost setL setR; rw [if_neg (by omega), if_pos (.inl h3)]; exact ⟨rfl, HS.out⟩)
    clear q p hh hCk hO HS
    go_enter Try.func17, Try.ntmps17
    go_wp2_with fail
    go_ret
    exact HF.out
  by_cases h4 : 4611686018427387904 < t
  · have HF := Lib.hid (show SetPost C nm now l (C :: bm :: blkV v) a t w (.returned (.int .i64 3)) w from by unfold SetPost setL setR; rw [if_neg (by omega), if_pos (.inr h4)]; exact ⟨rfl, HS.out⟩)
    clear q p hh hCk hO HS
    go_enter Try.func17, Try.ntmps17
    go_wp2_with fail
    go_ret
    exact HF.out
  have HR : Hid (setR nm now a t = 0 ∧ setL nm now a t l = (a, t) :: rm l a) := Lib.hid (by
    have e : setR nm now a t = 0 := by unfold setR; rw [if_neg (by omega), if_neg (by omega)]
    exact ⟨e, by unfold setL; rw [if_pos e]⟩)
  rcases q.look p a ha with ⟨i, hi, hna, hrun⟩ | ⟨hna, hrun⟩
  · obtain ⟨b, cap, rfl, hlc, hcm, hce, hfr, n1, n2, n3⟩ := q.read hi
    have c2 := cofr q.hdr 2 _ rfl
    obtain ⟨d0, d1⟩ := hce i hi
    have f1 := hfr (i * 2 + 1)
    unfold maxLen at hcm
    obtain ⟨q2, k2⟩ := q.put2 hi t
    have hsp := set_perm hi t hO.1
    have HX := Lib.hid ((fix_any q2 (pl_set p hi t) (by
      intro x hx
      rcases List.mem_or_eq_of_mem_set hx with e | e
      · exact hO.wd hn x e
      · rw [e]; have := hO.wd hn (g l i) (g_mem hi); exact this) (by simpa using (show l.length ≤ 90000 by omega)) (i := i) (by simpa using hi) (heap_pair hh hi _)).mono (fun e w' hp => show e = .returned (.tuple #[]) ∧ SetPost C nm now l (C :: bm :: blkV (.slice (some ⟨b, 0, none⟩) l.length cap)) a t w (.returned (.int .i64 0)) w' from by
        obtain ⟨rfl, l', D', hs, hp⟩ := hp
        have hl' := hs.len
        refine ⟨rfl, by rw [HR.out.1], ?_⟩
        rw [HR.out.2]
        refine ChgC.of_q (chg_hs (v1 := .slice (some ⟨b, 0, none⟩) l.length cap) (k2.mono (S' := C :: bm :: blkV (.slice (some ⟨b, 0, none⟩) l.length cap)) (fun k hk => .inl (by rw [blkV_some]; simp at hk; simp [hk]))) (fun k hk => .inl hk) hs) (by rw [hl']; exact hp) ?_
        refine hs.pm.perm.trans ?_
        rw [← hna]
        exact hsp))
    clear q p hh hCk hO HS q2 k2 hsp hce hfr
    have c2' : (w.setCell ⟨b, i * 2 + 1, none⟩ (.int .i64 t)).cell? ⟨C, 2, none⟩ = some (.slice (some ⟨b, 0, none⟩) l.length cap) := by
      have k : Kept [b] w (w.setCell ⟨b, i * 2 + 1, none⟩ (.int .i64 t)) := (Kept.refl [b] w).setCell (.inl (by simp)) _
      exact k.cell (by simpa using n1.symm) c2
    go_enter Try.func17, Try.ntmps17
    go_wp2_with fail
    refine HX.out.mono ?_
    rintro e w1 ⟨rfl, hF⟩
    have HF := Lib.hid hF
    clear hF HX c0 c1 c2 c3 hrun d0 d1 f1 c2'
    go_wp2_with fail
    go_ret
    exact HF.out
  · have HX := Lib.hid ((hpush_any q p (hO.wd hn) hh (by omega) (a, t) hna ha).mono (fun e w' hp => show e = .returned (.tuple #[]) ∧ SetPost C nm now l (C :: bm :: blkV v) a t w (.returned (.int .i64 0)) w' from by
      obtain ⟨rfl, l', hc, hp, hh'⟩ := hp
      refine ⟨rfl, by rw [HR.out.1], ?_⟩
      rw [HR.out.2, rm_none hna]
      exact ChgC.of_q hc hh' hp))
    clear q p hh hCk hO HS hna
    go_enter Try.func17, Try.ntmps17
    go_wp2_with fail
    refine HX.out.mono ?_
    rintro e w1 ⟨rfl, hF⟩
    have HF := Lib.hid hF
    clear hF HX c0 c1 c3 hrun
    go_wp2_with fail
    go_ret
    exact HF.out
theorem set_nil (w : World) (a t : Int) : Calls Try.prog 17 #[.pointer none, .int .i64 a, .int .i64 t] w (RetI 1 w) := by
  go_enter Try.func17, Try.ntmps17
  go_wp2_with fail
  go_ret
  exact ⟨rfl, Below.refl _ _⟩
def RetN (a t : Int) (b : Bool) (w : World) (e : Ending) (w' : World) : Prop := e = .returned (.tuple #[.int .i64 a, .int .i64 t, .bool b]) ∧ Below w.heap.size w w'
/-- the alarm that rings first -/
def hd (l : List Al) : Int × Int × Bool := match l with | [] => (0, 0, false) | x :: _ => (x.1, x.2, true)
theorem hd_cons {l : List Al} (h : 0 < l.length) : hd l = ((g l 0).1, (g l 0).2, true) := by
  cases l with
  | nil => simp at h
  | cons x l => rfl
set_option maxHeartbeats 1000000 in
theorem next_any (w : World) {C : Nat} {nm now : Int} {l : List Al} {S : List Nat} (h : Ck C nm now l S w) (hl : l.length ≤ 90000) :
    Calls Try.prog 19 #[.pointer (some ⟨C, 0, none⟩)] w (RetN (hd l).1 (hd l).2.1 (hd l).2.2 w) := by
  have HL := Lib.hid (clen_any w h)
  obtain ⟨v, bm, D, q, p, hh, rfl⟩ := h
  by_cases h0 : 0 < l.length
  · rw [hd_cons h0]
    obtain ⟨b, cap, rfl, hlc, hcm, hce, _⟩ := q.read h0
    obtain ⟨d0, d1⟩ := hce 0 h0
    unfold maxLen at hcm
    have c2 := cofr q.hdr 2 _ rfl
    have HQ := Lib.hid (fun (W : World) (hb : Below w.heap.size w W) => show W.cell? ⟨C, 2, none⟩ = some (.slice (some ⟨b, 0, none⟩) l.length cap) ∧ W.cell? ⟨b, 0 * 2, none⟩ = some (.int .i64 (g l 0).1) ∧ W.cell? ⟨b, 0 * 2 + 1, none⟩ = some (.int .i64 (g l 0).2) from
      ⟨(hb.cell (World.block_lt_of_cell? w _ c2)).trans c2, (hb.cell (World.block_lt_of_cell? w _ d0)).trans d0, (hb.cell (World.block_lt_of_cell? w _ d1)).trans d1⟩)
    clear q p hh hce d0 d1 c2
    generalize g l 0 = x at *
    go_enter Try.func19, Try.ntmps19
    go_wp2_with fail
    refine HL.out.mono ?_
    rintro e w1 ⟨rfl, h1⟩
    obtain ⟨c2, d0, d1⟩ := HQ.out w1 h1
    simp only [Nat.zero_mul, Nat.zero_add] at d0 d1
    have HB := Lib.hid h1
    clear HL h1 HQ
    have b1 := bal (w := w1) (.cells #[.int .i64 x.1, .int .i64 x.2] 71)
    have x1 := heap_alloc_new w1 (.cells #[.int .i64 x.1, .int .i64 x.2] 71)
    have e0 := cofr x1 0 _ rfl
    have e1 := cofr x1 1 _ rfl
    have HB1 := Lib.hid (HB.out.trans (b1.mono HB.out.size))
    clear b1 x1
    go_wp2_with fail
    go_quiet (fail)
    go_wp2
    exact bodyPost_ret (v := .tuple #[.int .i64 x.1, .int .i64 x.2, .bool true]) (by simp [results, Try.results19, go_sem]) rfl ⟨rfl, HB1.out.trans ⟨rfl, rfl, rfl, Nat.le_refl _, fun _ _ => rfl⟩⟩
  · have e0 : l = [] := List.eq_nil_of_length_eq_zero (by omega)
    subst e0
    clear q p hh
    go_enter Try.func19, Try.ntmps19
    go_wp2_with fail
    refine HL.out.mono ?_
    rintro e w1 ⟨rfl, h1⟩
    have HB := Lib.hid h1
    clear h1 HL
    go_wp2_with fail
    exact bodyPost_ret (v := .tuple #[.int .i64 0, .int .i64 0, .bool false]) (by simp [results, Try.results19, go_sem]) rfl ⟨rfl, HB.out⟩
theorem next_nil (w : World) : Calls Try.prog 19 #[.pointer none] w (RetN 0 0 false w) := by
  go_enter Try.func19, Try.ntmps19
  go_wp2_with fail
  refine (clen_nil _).mono ?_
  rintro e w1 ⟨rfl, h1⟩
  have HB := Lib.hid h1
  clear h1
  go_wp2_with fail
  exact bodyPost_ret (v := .tuple #[.int .i64 0, .int .i64 0, .bool false]) (by simp [results, Try.results19, go_sem]) rfl ⟨rfl, HB.out⟩
end Go.Proofs.Ytnioaaahkhephaa.al
