/-
  Alarms: the reference: Set, Stop, New.
-/
import Derived.Test.YtnioaaahkhephaaAlmJ
namespace Go.Proofs.Ytnioaaahkhephaa.al
open Go.RowKit Go.Maps aid mem
attribute [local go_sem ↓] Go.wp_at_zero Go.wp_at_succ
set_option linter.unusedVariables false
set_option linter.unusedSimpArgs false

theorem res_put {w W : World} {bx : Nat} {x : Int} {y : Option Addr} {z c : Nat} (hbx : W.heap[bx]? = some (rcO x y z c)) (hge : w.heap.size ≤ bx) (hb : Below w.heap.size w W) (now : Int) (a : Option Addr) (n cap : Nat) :
    ((W.setCell ⟨bx, 0, none⟩ (.int .i64 now)).setCell ⟨bx, 1, none⟩ (.slice a n cap)).heap[bx]? = some (rcO now a n cap) ∧
    Below w.heap.size w ((W.setCell ⟨bx, 0, none⟩ (.int .i64 now)).setCell ⟨bx, 1, none⟩ (.slice a n cap)) ∧ Kept [bx] W ((W.setCell ⟨bx, 0, none⟩ (.int .i64 now)).setCell ⟨bx, 1, none⟩ (.slice a n cap)) := by
  have k : Kept [bx] W ((W.setCell ⟨bx, 0, none⟩ (.int .i64 now)).setCell ⟨bx, 1, none⟩ (.slice a n cap)) := ((Kept.refl [bx] W).setCell (.inl (by simp)) _).setCell (.inl (by simp)) _
  exact ⟨(heap_setCell_same _ _ _ _ _ _ ((heap_setCell_same W _ 0 _ _ _ hbx).trans rfl)).trans rfl, hb.trans (k.below (B := w.heap.size) (fun k hk => by simp at hk; omega) hb.size), k⟩
/-- the box, the box of the result -/
structure B2 (w : World) (now : Int) (a : Option Addr) (n cap : Nat) (W : World) : Prop where
  box : W.heap[w.heap.size]? = some (rcO now a n cap)
  res : W.heap[w.heap.size + 1]? = some (rcO 0 none 0 0)
  below : Below w.heap.size w W
theorem b2_new (w : World) (now : Int) (a : Option Addr) (n cap : Nat) : B2 w now a n cap ((w.alloc (rcO now a n cap)).alloc (rcO 0 none 0 0)) := by
  have h1 := bal (w := w) (rcO now a n cap)
  have h2 := bal (w := w.alloc (rcO now a n cap)) (rcO 0 none 0 0)
  have x2 := heap_alloc_new (w.alloc (rcO now a n cap)) (rcO 0 none 0 0)
  have hz : (w.alloc (rcO now a n cap)).heap.size = w.heap.size + 1 := by simp
  rw [hz] at x2
  exact ⟨(h2.block _ (by omega)).trans (heap_alloc_new w _), x2, h1.trans (h2.mono h1.size)⟩
section
variable {w W X : World} {now : Int} {a : Option Addr} {n cap : Nat}
theorem B2.later (h : B2 w now a n cap W) (hb : Below W.heap.size W X) : B2 w now a n cap X :=
  ⟨(hb.block _ (lt_of_block h.box)).trans h.box, (hb.block _ (lt_of_block h.res)).trans h.res, h.below.trans (hb.mono h.below.size)⟩
theorem B2.c0 (h : B2 w now a n cap W) : W.cell? ⟨w.heap.size, 0, none⟩ = some (.int .i64 now) := cofr h.box 0 _ rfl
theorem B2.c1 (h : B2 w now a n cap W) : W.cell? ⟨w.heap.size, 1, none⟩ = some (.slice a n cap) := cofr h.box 1 _ rfl
theorem B2.r0 (h : B2 w now a n cap W) : W.cell? ⟨w.heap.size + 1, 0, none⟩ = some (.int .i64 0) := cofr h.res 0 _ rfl
theorem B2.r1 (h : B2 w now a n cap W) : W.cell? ⟨w.heap.size + 1, 1, none⟩ = some (.slice none 0 0) := cofr h.res 1 _ rfl
theorem B2.f0 (h : B2 w now a n cap W) : W.frozen? ⟨w.heap.size + 1, 0, none⟩ = false := fofr h.res 0
theorem B2.f1 (h : B2 w now a n cap W) : W.frozen? ⟨w.heap.size + 1, 1, none⟩ = false := fofr h.res 1
theorem B2.ge (h : B2 w now a n cap W) : w.heap.size + 2 ≤ W.heap.size := by have := lt_of_block h.res; omega
end
/-- a clock, and something beside it -/
def RetCV (a0 : Option Addr) (now : Int) (L : List Int) (u : Value) (w : World) (e : Ending) (w' : World) : Prop := ∃ a cap, e = .returned (.tuple #[rc now a L.length cap, u]) ∧ SlA .i64 w' a L.length cap L ∧ Below w.heap.size w w' ∧ ∀ x, a = some x → a0 = some x ∨ w.heap.size ≤ x.block
theorem ret_old {w W : World} {now now2 : Int} {a : Option Addr} {n cap : Nat} {L : List Int} {u : Value} (h : SlA .i64 w a n cap L) (hb : B2 w now a n cap W) :
    Hid (((W.setCell ⟨w.heap.size + 1, 0, none⟩ (.int .i64 now2)).setCell ⟨w.heap.size + 1, 1, none⟩ (.slice a n cap)).heap[w.heap.size + 1]? = some (rcO now2 a n cap) ∧
    RetCV a now2 L u w (.returned (.tuple #[rc now2 a n cap, u])) ((W.setCell ⟨w.heap.size + 1, 0, none⟩ (.int .i64 now2)).setCell ⟨w.heap.size + 1, 1, none⟩ (.slice a n cap))) := by
  obtain ⟨r1, r2, _⟩ := res_put (w := w) hb.res (Nat.le_succ _) hb.below now2 a n cap
  have hl := h.len
  exact Lib.hid ⟨r1, a, cap, by rw [hl], by rw [hl]; exact h.later r2, r2, fun x hx => .inl hx⟩
theorem ret_new {w W W3 : World} {now now2 : Int} {a a3 : Option Addr} {n cap cap3 : Nat} {L : List Int} {u : Value} (hb : B2 w now a n cap W) (h3 : SlA .i64 W3 a3 L.length cap3 L) (hb3 : Below W.heap.size W W3) (hn : ∀ x, a3 = some x → W.heap.size ≤ x.block) :
    Hid (((W3.setCell ⟨w.heap.size + 1, 0, none⟩ (.int .i64 now2)).setCell ⟨w.heap.size + 1, 1, none⟩ (.slice a3 L.length cap3)).heap[w.heap.size + 1]? = some (rcO now2 a3 L.length cap3) ∧
    RetCV a now2 L u w (.returned (.tuple #[rc now2 a3 L.length cap3, u])) ((W3.setCell ⟨w.heap.size + 1, 0, none⟩ (.int .i64 now2)).setCell ⟨w.heap.size + 1, 1, none⟩ (.slice a3 L.length cap3))) := by
  have hb' := hb.later hb3
  obtain ⟨r1, r2, k⟩ := res_put (w := w) hb'.res (Nat.le_succ _) hb'.below now2 a3 L.length cap3
  refine Lib.hid ⟨r1, a3, cap3, rfl, h3.keep k (fun x hx => ?_), r2, fun x hx => .inr (Nat.le_trans hb.below.size (hn x hx))⟩
  have := hn x hx
  have := hb.ge
  simp; omega
def rsetL (now : Int) (L : List Int) (z t : Int) : List Int := if setR (L.length : Nat) now z t = 0 then L.set z.toNat t else L
theorem rset_len (now : Int) (L : List Int) (z t : Int) : (rsetL now L z t).length = L.length := by unfold rsetL; split <;> simp
theorem ret_fold {w : World} {now : Int} {a : Option Addr} {n cap : Nat} {L : List Int} {u : Value} (h : SlA .i64 w a n cap L) :
    Hid (((w.alloc (rcO now a n cap)).alloc (rcO now a n cap)).heap[w.heap.size + 1]? = some (rcO now a n cap) ∧ RetCV a now L u w (.returned (.tuple #[rc now a n cap, u])) ((w.alloc (rcO now a n cap)).alloc (rcO now a n cap))) := by
  have h1 := bal (w := w) (rcO now a n cap)
  have h2 := bal (w := w.alloc (rcO now a n cap)) (rcO now a n cap)
  have x2 := heap_alloc_new (w.alloc (rcO now a n cap)) (rcO now a n cap)
  have hz : (w.alloc (rcO now a n cap)).heap.size = w.heap.size + 1 := by simp
  rw [hz] at x2
  have hb := h1.trans (h2.mono h1.size)
  have hl := h.len
  exact Lib.hid ⟨x2, a, cap, by rw [hl], by rw [hl]; exact h.later hb, hb, fun x hx => .inl hx⟩
set_option maxHeartbeats 4000000 in
theorem rset_any {w : World} {a : Option Addr} {n cap : Nat} {L : List Int} (h : SlA .i64 w a n cap L) (now : Int) (hn : n ≤ 1000) (z t : Int) :
    Calls Try.prog 23 #[rc now a n cap, .int .i64 z, .int .i64 t] w (RetCV a now (rsetL now L z t) (.int .i64 (setR n now z t)) w) := by
  have hl := h.len
  have hle := h.le
  have HB := b2_new w now a n cap
  have c0 := HB.c0; have c1 := HB.c1; have r0 := HB.r0; have r1 := HB.r1; have f0 := HB.f0; have f1 := HB.f1
  by_cases h1 : z < 0
  · have HO := ret_fold (now := now) (u := .int .i64 8) h
    have HE : Hid (setR n now z t = 8 ∧ rsetL now L z t = L) := Lib.hid (by
      have e : setR n now z t = 8 := by unfold setR; rw [if_pos (.inl h1)]
      exact ⟨e, by unfold rsetL; rw [hl, e]; rfl⟩)
    rw [HE.out.1, HE.out.2]
    have y0 := cofr HO.out.1 0 _ rfl; have y1 := cofr HO.out.1 1 _ rfl
    clear h HB HE
    go_enter Try.func23, Try.ntmps23
    go_wp2_with fail
    exact bodyPost_ret (v := .tuple #[rc now a n cap, .int .i64 8]) (by simp [results, Try.results23, go_sem, y0, y1]) rfl HO.out.2
  by_cases h2 : (n : Int) ≤ z
  · have HO := ret_fold (now := now) (u := .int .i64 8) h
    have HE : Hid (setR n now z t = 8 ∧ rsetL now L z t = L) := Lib.hid (by
      have e : setR n now z t = 8 := by unfold setR; rw [if_pos (.inr h2)]
      exact ⟨e, by unfold rsetL; rw [hl, e]; rfl⟩)
    rw [HE.out.1, HE.out.2]
    have y0 := cofr HO.out.1 0 _ rfl; have y1 := cofr HO.out.1 1 _ rfl
    clear h HB HE
    go_enter Try.func23, Try.ntmps23
    go_wp2_with fail
    exact bodyPost_ret (v := .tuple #[rc now a n cap, .int .i64 8]) (by simp [results, Try.results23, go_sem, y0, y1]) rfl HO.out.2
  by_cases h3 : t < now
  · have HO := ret_fold (now := now) (u := .int .i64 3) h
    have HE : Hid (setR n now z t = 3 ∧ rsetL now L z t = L) := Lib.hid (by
      have e : setR n now z t = 3 := by unfold setR; rw [if_neg (by omega), if_pos (.inl h3)]
      exact ⟨e, by unfold rsetL; rw [hl, e]; rfl⟩)
    rw [HE.out.1, HE.out.2]
    have y0 := cofr HO.out.1 0 _ rfl; have y1 := cofr HO.out.1 1 _ rfl
    clear h HB HE
    go_enter Try.func23, Try.ntmps23
    go_wp2_with fail
    exact bodyPost_ret (v := .tuple #[rc now a n cap, .int .i64 3]) (by simp [results, Try.results23, go_sem, y0, y1]) rfl HO.out.2
  by_cases h4 : 4611686018427387904 < t
  · have HO := ret_fold (now := now) (u := .int .i64 3) h
    have HE : Hid (setR n now z t = 3 ∧ rsetL now L z t = L) := Lib.hid (by
      have e : setR n now z t = 3 := by unfold setR; rw [if_neg (by omega), if_pos (.inr h4)]
      exact ⟨e, by unfold rsetL; rw [hl, e]; rfl⟩)
    rw [HE.out.1, HE.out.2]
    have y0 := cofr HO.out.1 0 _ rfl; have y1 := cofr HO.out.1 1 _ rfl
    clear h HB HE
    go_enter Try.func23, Try.ntmps23
    go_wp2_with fail
    exact bodyPost_ret (v := .tuple #[rc now a n cap, .int .i64 3]) (by simp [results, Try.results23, go_sem, y0, y1]) rfl HO.out.2
  obtain ⟨m, rfl⟩ := Int.eq_ofNat_of_zero_le (Int.not_lt.1 h1)
  have HE : Hid (setR n now m t = 0 ∧ rsetL now L m t = L.set m t) := Lib.hid (by
    have e : setR n now m t = 0 := by unfold setR; rw [if_neg (by omega), if_neg (by omega)]
    exact ⟨e, by unfold rsetL; rw [hl, e, if_pos rfl, Int.toNat_natCast]⟩)
  rw [HE.out.1, HE.out.2]
  have HP := Lib.hid (rput_any (h.later HB.below) now (i := m) (by omega) t hn)
  have HN := Lib.hid (fun (a3 : Option Addr) (cap3 : Nat) (W3 : World) h3 hb3 hn => ret_new (now2 := now) (u := .int .i64 0) (L := L.set m t) (a3 := a3) (cap3 := cap3) (W3 := W3) HB h3 hb3 hn)
  have HBH := Lib.hid HB
  have hls : (L.set m t).length = n := by rw [List.length_set, hl]
  clear h HB HE
  go_enter Try.func23, Try.ntmps23
  go_wp2_with fail
  refine HP.out.mono ?_
  rintro e w3 ⟨a3, cap3, rfl, q1, q2, q3⟩
  have HX := HN.out a3 cap3 w3 q1 q2 q3
  rw [hls] at HX
  have HB3 := HBH.out.later q2
  have x0 := HB3.r0; have x1 := HB3.r1; have g0 := HB3.f0; have g1 := HB3.f1
  have y0 := cofr HX.out.1 0 _ rfl; have y1 := cofr HX.out.1 1 _ rfl
  clear q1 q2 q3 HB3 HN HP HBH c0 c1 r0 r1 f0 f1
  go_wp2_with fail
  exact bodyPost_ret (v := .tuple #[rc now a3 n cap3, .int .i64 0]) (by simp [results, Try.results23, go_sem, y0, y1]) rfl HX.out.2
def rstopL (L : List Int) (z : Int) : List Int := if isL L z = true then L.set z.toNat (-1) else L
theorem rstop_len (L : List Int) (z : Int) : (rstopL L z).length = L.length := by unfold rstopL; split <;> simp
set_option maxHeartbeats 4000000 in
theorem rstop_any {w : World} {a : Option Addr} {n cap : Nat} {L : List Int} (h : SlA .i64 w a n cap L) (now : Int) (hn : n ≤ 1000) (z : Int) :
    Calls Try.prog 24 #[rc now a n cap, .int .i64 z] w (RetCV a now (rstopL L z) (.bool (isL L z)) w) := by
  have hl := h.len
  have hle := h.le
  have HB := b2_new w now a n cap
  have c0 := HB.c0; have c1 := HB.c1
  have HI := Lib.hid (ris_any (h.later HB.below) now hn z)
  have HBH := Lib.hid HB
  have HH := Lib.hid h
  clear HB h
  cases hz : isL L z with
  | false =>
    rw [hz] at HI
    have HE : Hid (rstopL L z = L) := Lib.hid (by unfold rstopL; rw [hz]; rfl)
    rw [HE.out]
    clear HE
    go_enter Try.func24, Try.ntmps24
    go_wp2_with fail
    refine HI.out.mono ?_
    rintro e w3 ⟨rfl, hb⟩
    have HB3 := HBH.out.later hb
    have HX := ret_old (now2 := now) (u := .bool false) HH.out HB3
    have d0 := HB3.c0; have d1 := HB3.c1
    have x0 := HB3.r0; have x1 := HB3.r1; have g0 := HB3.f0; have g1 := HB3.f1
    have y0 := cofr HX.out.1 0 _ rfl; have y1 := cofr HX.out.1 1 _ rfl
    clear hb HB3 HBH HH HI c0 c1
    go_wp2_with fail
    exact bodyPost_ret (v := .tuple #[rc now a n cap, .bool false]) (by simp [results, Try.results24, go_sem, y0, y1]) rfl HX.out.2
  | true =>
    rw [hz] at HI
    have hzz := of_decide_eq_true hz
    obtain ⟨m, rfl⟩ := Int.eq_ofNat_of_zero_le hzz.1
    have hmn : m < n := by omega
    have HE : Hid (rstopL L m = L.set m (-1)) := Lib.hid (by unfold rstopL; rw [hz, if_pos rfl, Int.toNat_natCast])
    rw [HE.out]
    clear HE hzz
    have HP := Lib.hid (fun W (hb : Below w.heap.size w W) => rput_any (HH.out.later hb) now (i := m) hmn (-1) hn)
    have HN := Lib.hid (fun (W : World) (hb : B2 w now a n cap W) (a3 : Option Addr) (cap3 : Nat) (W3 : World) h3 hb3 hn => ret_new (now2 := now) (u := .bool true) (L := L.set m (-1)) (a3 := a3) (cap3 := cap3) (W3 := W3) hb h3 hb3 hn)
    have hls : (L.set m (-1)).length = n := by rw [List.length_set, hl]
    go_enter Try.func24, Try.ntmps24
    go_wp2_with fail
    refine HI.out.mono ?_
    rintro e w2 ⟨rfl, hb⟩
    have HB2 := Lib.hid (HBH.out.later hb)
    have d0 := HB2.out.c0; have d1 := HB2.out.c1
    clear hb HBH HH HI c0 c1
    go_wp2_with fail
    refine (HP.out _ HB2.out.below).mono ?_
    rintro e w3 ⟨a3, cap3, rfl, q1, q2, q3⟩
    have HX := HN.out _ HB2.out a3 cap3 w3 q1 q2 q3
    rw [hls] at HX
    have HB3 := HB2.out.later q2
    have x0 := HB3.r0; have x1 := HB3.r1; have g0 := HB3.f0; have g1 := HB3.f1
    have y0 := cofr HX.out.1 0 _ rfl; have y1 := cofr HX.out.1 1 _ rfl
    clear q1 q2 q3 HB3 HN HP HB2 d0 d1
    go_wp2_with fail
    exact bodyPost_ret (v := .tuple #[rc now a3 n cap3, .bool true]) (by simp [results, Try.results24, go_sem, y0, y1]) rfl HX.out.2
end Go.Proofs.Ytnioaaahkhephaa.al
