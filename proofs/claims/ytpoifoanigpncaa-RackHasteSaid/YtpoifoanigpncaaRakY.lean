/-
  Layer 15's law RackHaste.
-/
import Derived.Test.YtpoifoanigpncaaRakU
import Derived.Test.YtpoifoanigpncaaRakV
import Derived.Test.YtpoifoanigpncaaRakK
namespace Go.Proofs.Ytpoifoanigpncaa.rk
open Go.RowKit aid mem opn bk sp Go.ChangeShapes Go.WideShapes Go.ChangeAt
attribute [local go_sem ↓] Go.wp_at_zero Go.wp_at_succ
set_option linter.unusedVariables false
set_option linter.unusedSimpArgs false

section
variable {H : Type} {enc : TypeId × Value → H} {w : World} {base : Nat}
set_option maxRecDepth 100000 in
theorem open_rc {b0 : Nat} {v : Value} {d : DataW H} {p : List MemPlace} (hv : Value.okWide Try.prog w .any b0 26 v)
    (hk : DataW.Trod enc Try.prog w base (fun _ => true) true 26 v d p) : ∃ s : {r : bk.Rc // RcOk r}, v = .agg #[.int .i64 s.1.f, .int .i64 s.1.t, .int .i64 s.1.sent, .int .i64 s.1.order, .int .i64 s.1.times, .int .i64 s.1.out, .bool s.1.lost] := by
  obtain ⟨cs, rfl, hsz⟩ := okWide_struct Try.underlying26 hv
  obtain ⟨fuel, h⟩ := hk
  obtain ⟨q, hq, hok⟩ := rec_in fuel _ d p h
  have : cs = #[.int .i64 q.f, .int .i64 q.t, .int .i64 q.sent, .int .i64 q.order, .int .i64 q.times, .int .i64 q.out, .bool q.lost] := by
    apply Array.toList_inj.1
    simpa [Value.cells] using hq
  subst this
  exact ⟨⟨q, hok⟩, rfl⟩
end
theorem sd_later {w W : World} {a : Option Addr} {n cap : Nat} {xs : Nat → Int × Int} (h : SdA w a n cap xs) (hb : Below w.heap.size w W) : SdA W a n cap xs :=
  ⟨h.le, h.most, fun h0 => by
    obtain ⟨b, off, ha, hc⟩ := h.cells h0
    exact ⟨b, off, ha, fun i hi => ⟨ckl hb (hc i hi).1, ckl hb (hc i hi).2.1, (hc i hi).2.2⟩⟩⟩
theorem by_later {w W : World} {a : Option Addr} {n cap : Nat} {z : Nat → Int} (h : ByA w a n cap z) (hb : Below w.heap.size w W) : ByA W a n cap z :=
  ⟨h.le, h.most, fun h0 => by
    obtain ⟨b, off, ha, hc⟩ := h.cells h0
    exact ⟨b, off, ha, fun i hi => ⟨ckl hb (hc i hi).1, (hc i hi).2⟩⟩⟩
abbrev rcB (r : bk.Rc) : Obj := .cells #[.int .i64 r.f, .int .i64 r.t, .int .i64 r.sent, .int .i64 r.order, .int .i64 r.times, .int .i64 r.out, .bool r.lost] 26
abbrev flO (q : FlV) : Obj := .cells (flC q.sa q.sn q.sc q.ba q.bn q.bc q.la q.ln q.lc) 50
abbrev B7 (b : Nat) (r : bk.Rc) (W : World) : Prop := W.cell? ⟨b, 0, none⟩ = some (.int .i64 r.f) ∧ W.cell? ⟨b, 1, none⟩ = some (.int .i64 r.t) ∧ W.cell? ⟨b, 2, none⟩ = some (.int .i64 r.sent) ∧ W.cell? ⟨b, 3, none⟩ = some (.int .i64 r.order) ∧ W.cell? ⟨b, 4, none⟩ = some (.int .i64 r.times) ∧ W.cell? ⟨b, 5, none⟩ = some (.int .i64 r.out) ∧ W.cell? ⟨b, 6, none⟩ = some (.bool r.lost)
theorem b7_of {W : World} {b : Nat} {r : bk.Rc} (h : W.heap[b]? = some (rcB r)) : B7 b r W := ⟨cofr h 0 _ rfl, cofr h 1 _ rfl, cofr h 2 _ rfl, cofr h 3 _ rfl, cofr h 4 _ rfl, cofr h 5 _ rfl, cofr h 6 _ rfl⟩
/-- the boxes of what came in -/
structure HB (w : World) (q : FlV) (r : bk.Rc) (W : World) : Prop where
  fl : W.heap[w.heap.size]? = some (flO q)
  rc : W.heap[w.heap.size + 1]? = some (rcB r)
  below : Below w.heap.size w W
theorem HB.later {w W W' : World} {q : FlV} {r : bk.Rc} (h : HB w q r W) (hb : Below W.heap.size W W') : HB w q r W' := ⟨(hb.block _ (lt_of_block h.fl)).trans h.fl, (hb.block _ (lt_of_block h.rc)).trans h.rc, h.below.trans (hb.mono h.below.size)⟩
theorem hb_new (w : World) (q : FlV) (r : bk.Rc) : HB w q r ((w.alloc (flO q)).alloc (rcB r)) := by
  have b1 := al w (flO q)
  have y1 := heap_alloc_new w (flO q)
  have z1 : (w.alloc (flO q)).heap.size = w.heap.size + 1 := by simp
  generalize w.alloc (flO q) = w1 at *
  have b3 := al w1 (rcB r)
  have y4 := heap_alloc_new w1 (rcB r)
  rw [z1] at y4
  exact ⟨(b3.block _ (lt_of_block y1)).trans y1, y4, b1.trans (b3.mono b1.size)⟩
/-- the book of a flight, the document's in a box at K, the rack -/
structure HS (w : World) (q : FlV) (r : bk.Rc) (X B T K : Nat) (x : Rk) (s : Hd) (N L : List Nd) (a : Option Addr) (n cap : Nat) (W : World) : Prop where
  hb : HB w q r W
  bk : Bk W B T s N L
  kb : W.heap[K]? = some (rbO a n cap (same s N))
  ra : RcA W a n cap (N.map (·.2))
  rk : RkAt W X x
section
variable {w W W' : World} {q : FlV} {r : bk.Rc} {X B T K n cap : Nat} {x x' : Rk} {s : Hd} {N L : List Nd} {a : Option Addr}
theorem HS.later (h : HS w q r X B T K x s N L a n cap W) (hb : Below W.heap.size W W') : HS w q r X B T K x s N L a n cap W' :=
  ⟨h.hb.later hb, h.bk.later hb, (hb.block _ (lt_of_block h.kb)).trans h.kb, h.ra.later hb, h.rk.later hb⟩
theorem HS.drewN (h : HS w q r X B T K x s N L a n cap W) (m : Nat) : HS w q r X B T K x s N L a n cap (W.drewN m) := h.later (belN W m)
theorem HS.drew (h : HS w q r X B T K x s N L a n cap W) : HS w q r X B T K x s N L a n cap W.drew := h.later (Below.refl _ _).drew
/-- the rack was written, which was made last -/
theorem HS.wrote {W0 : World} (h0 : HB w q r W0) (h1 : Bk W0 B T s N L) (h2 : W0.heap[K]? = some (rbO a n cap (same s N))) (h3 : RcA W0 a n cap (N.map (·.2))) (hb : Below W0.heap.size W0 W) (hX : W0.heap.size ≤ X) (hk : Kept [X] W W') (hx : RkAt W' X x') : HS w q r X B T K x' s N L a n cap W' := by
  have hbb : Below W0.heap.size W0 W' := hb.trans (hk.below (by simpa using hX) hb.size)
  exact ⟨h0.later hbb, h1.later hbb, (hbb.block _ (lt_of_block h2)).trans h2, h3.later hbb, hx⟩
end
/-- what came tells times that are small -/
theorem came_small {x : Rk} {r : Rc} {now : Int} (h : 0 ≤ x.rtt ∧ x.rtt ≤ now) (hr : 0 ≤ r.sent) (least : Int) (has told : Bool) (val : Int) : 0 ≤ (came x r now least has told val).rtt ∧ (came x r now least has told val).rtt ≤ now := by
  unfold came
  by_cases c : cameB x r now least has told val = true
  · rw [if_pos c]
    have : ¬ now < r.sent := by
      unfold cameB at c
      simp only [Bool.and_eq_true, Bool.not_eq_true', decide_eq_false_iff_not] at c
      exact c.1.1
    simp only
    omega
  · rw [if_neg c]; exact h
set_option maxRecDepth 100000 in
set_option maxHeartbeats 8000000 in
theorem walk_RackHaste (w : World) (s : {q : FlV // FlIs w q}) (r : {r : bk.Rc // RcOk r}) (ahead : Int) (ha : -9223372036854775808 ≤ ahead ∧ ahead ≤ 9223372036854775807) (win : Int) (hwin : -9223372036854775808 ≤ win ∧ win ≤ 9223372036854775807) :
    Calls Try.prog 5 #[.agg #[.slice s.1.sa s.1.sn s.1.sc, .slice s.1.ba s.1.bn s.1.bc, .slice s.1.la s.1.ln s.1.lc], .agg #[.int .i64 r.1.f, .int .i64 r.1.t, .int .i64 r.1.sent, .int .i64 r.1.order, .int .i64 r.1.times, .int .i64 r.1.out, .bool r.1.lost], .int .i64 ahead, .int .i64 win] w fun e w' => e = .returned (.bool true) ∧ Below w.heap.size w w' := by
  obtain ⟨q, hq⟩ := s
  obtain ⟨r, hr⟩ := r
  dsimp only at *
  have S := hb_new w q r
  have HQ := Lib.hid hq
  have HF := Lib.hid (fun W (hb : Below w.heap.size w W) => fly_any (sd_later HQ.out.s hb) (by_later HQ.out.b hb) (by_later HQ.out.l hb))
  unfold RetF at HF
  have HN := Lib.hid (fun W => rk.new_any (f := 0) ⟨by omega, by omega⟩ W)
  clear hq
  go_enter Try.func5, Try.ntmps5
  go_upto_region 3 with (go_at_call 8; go_must (with_reducible refine (rk.known_any _).mono ?_); rintro e w1 ⟨rfl, hb⟩; replace S := S.later hb; clear hb)
  have c0 := cofr S.fl 0 _ rfl; have c1 := cofr S.fl 1 _ rfl; have c2 := cofr S.fl 2 _ rfl
  go_upto_region 4 with (go_at_call 16; go_must (with_reducible refine (HF.out _ S.below).mono ?_); rintro e w2 ⟨B, T, s, N, L, a, m, cap, c, rfl, f1, f2, f3, f4, f5, f6⟩)
  have S2 := (S.later f5).later (al w2 (rbO a m cap (same s N)))
  have B2 := f1.later (al w2 (rbO a m cap (same s N)))
  have K2 := heap_alloc_new w2 (rbO a m cap (same s N))
  have A2 := f4.later (al w2 (rbO a m cap (same s N)))
  clear S c0 c1 c2 HF HQ f1 f4 f5 f6
  generalize w2.alloc (rbO a m cap (same s N)) = W3 at *
  generalize w2.heap.size = K at *
  go_upto_region 5 with (go_at_call 9; go_must (with_reducible refine (HN.out _).mono ?_); rintro e w4 ⟨rfl, x4, b4⟩)
  have HW := Lib.hid (fun W' x' (hk : Kept [W3.heap.size] w4 W') (hx : RkAt W' W3.heap.size x') => HS.wrote S2 B2 K2 A2 b4 (Nat.le_refl _) hk hx)
  have S4 := HW.out w4 _ (Kept.refl _ _) x4
  have XO := Lib.hid x4
  have HI := Lib.hid f2
  have HC60 := Lib.hid f3
  clear x4 b4 S2 B2 K2 A2 HN f2 f3
  generalize W3.heap.size = X at *
  obtain ⟨b0, b1, b2, b3, b4, b5, b6⟩ := b7_of S4.hb.rc
  have hnow : 0 ≤ s.now ∧ s.now ≤ 15300 := by have := HI.out.now; have := HC60.out; omega
  have HNOW := Lib.hid hnow
  have HBEL := Lib.hid S4.hb.below
  by_cases h1 : ahead < 0
  · clear hnow S4 XO
    go_wp2_with (go_at_call 8; go_must (with_reducible refine (rk.known_b HBEL.out).mono ?_); rintro e w5 ⟨rfl, hb⟩)
    go_ret
    exact ⟨rfl, hb⟩
  by_cases h2 : 1099511627776 < ahead
  · clear hnow S4 XO
    go_wp2_with (go_at_call 8; go_must (with_reducible refine (rk.known_b HBEL.out).mono ?_); rintro e w5 ⟨rfl, hb⟩)
    go_ret
    exact ⟨rfl, hb⟩
  by_cases h3 : r.sent < 0
  · clear hnow S4 XO
    go_wp2_with (go_at_call 8; go_must (with_reducible refine (rk.known_b HBEL.out).mono ?_); rintro e w5 ⟨rfl, hb⟩)
    go_ret
    exact ⟨rfl, hb⟩
  have hw : IntKind.i64.wrap (s.now + ahead) = s.now + ahead := IntWalk.i64_in _ (by omega)
  by_cases h4 : s.now + ahead < r.sent
  · clear hnow S4 XO
    go_wp2_with (go_at_call 8; go_must (with_reducible refine (rk.known_b HBEL.out).mono ?_); rintro e w5 ⟨rfl, hb⟩)
    go_ret
    exact ⟨rfl, hb⟩
  by_cases h5 : win < 0
  · clear hnow S4 XO
    go_wp2_with (go_at_call 8; go_must (with_reducible refine (rk.known_b HBEL.out).mono ?_); rintro e w5 ⟨rfl, hb⟩)
    go_ret
    exact ⟨rfl, hb⟩
  by_cases h6 : 68719476736 < win
  · clear hnow S4 XO
    go_wp2_with (go_at_call 8; go_must (with_reducible refine (rk.known_b HBEL.out).mono ?_); rintro e w5 ⟨rfl, hb⟩)
    go_ret
    exact ⟨rfl, hb⟩
  have HCM := Lib.hid (fun W (h : RkAt W X (newR 0)) => came_any h r (now := s.now + ahead) (least := 0) (has := true) (told := false) (val := 0) ⟨by omega, by omega⟩ ⟨by omega, by omega⟩ ⟨by omega, by omega⟩)
  have hsm := came_small (x := newR 0) (r := r) (now := s.now + ahead) (by simp [newR]; omega) (by omega) 0 true false 0
  have hwin : hld win = win := by unfold hld; omega
  have HLT := Lib.hid (fun W x' (h : HS w q r X B T K x' s N L a m cap W) (hx : 0 ≤ x'.rtt ∧ x'.rtt ≤ 2305843009213693952) (t : Int) => show Calls Try.prog 20 #[.pointer (some ⟨X, 0, none⟩), .pointer (some ⟨B, 0, none⟩), .int .i64 t, .int .i64 win] W (RetL W (lt1 x'.order (x'.rtt + win) t L [])) from by
    have := late_any h.rk h.bk.ln.lr HI.out.ord hx (fun y hy => by have := HI.out.rc y (HI.out.perm.mem_iff.1 hy); have := HNOW.out; omega) (by have := HI.out.perm.length_eq; have := HI.out.len; have := HC60.out; omega) t win
    rw [hwin] at this
    exact this)
  generalize cameB (newR 0) r (s.now + ahead) 0 true false 0 = bb at *
  generalize came (newR 0) r (s.now + ahead) 0 true false 0 = x at *
  have HSM := Lib.hid hsm
  have HX := Lib.hid (show 0 ≤ x.rtt ∧ x.rtt ≤ 2305843009213693952 from by omega)
  have HNUM := Lib.hid (show 0 ≤ ahead ∧ ahead ≤ 1099511627776 ∧ 0 ≤ win ∧ win ≤ 68719476736 from by omega)
  clear hsm hwin
  go_upto_region 9 with (go_at_call 19; go_must (with_reducible refine (HCM.out _ XO.out).mono ?_); rintro e w5 ⟨rfl, x5, k5⟩)
  have S5 := HW.out w5 _ k5 x5
  clear S4 XO x5 k5 HW HCM b0 b1 b2 b3 b4 b5 b6 hnow HBEL
  have HNWB := Lib.hid (show 0 ≤ s.now + ahead ∧ s.now + ahead ≤ 2000000000000 from by have := HNOW.out; omega)
  generalize s.now + ahead = now at *
  unfold RetL at HLT
  go_upto_region 10 with (go_at_call 20; go_must (with_reducible refine (HLT.out _ _ S5 HX.out _).mono ?_); rintro e w6 ⟨v, rfl, o6, b6⟩; obtain ⟨a6, c6, rfl, hsl6, _⟩ := sls_of_own o6)
  have HM := Lib.hid (lt1_mem x.order (x.rtt + win) now L [])
  have HNX := Lib.hid (lt1_next x.order (x.rtt + win) now L [])
  have HLN := Lib.hid (show (lt1 x.order (x.rtt + win) now L []).1.length ≤ 60 from by have := (lt1_len x.order (x.rtt + win) now L []).2; have := HI.out.perm.length_eq; have := HI.out.len; have := HC60.out; simp at *; omega)
  have HLT2 := Lib.hid (fun W (h : HS w q r X B T K x s N L a m cap W) (t : Int) => HLT.out W x h HX.out t)
  clear HLT o6
  have S6 := S5.later b6
  clear S5 b6
  generalize lt1 x.order (x.rtt + win) now L [] = R0 at *
  obtain ⟨l0, nx, ok⟩ := R0
  dsimp only at *
  have HUP := Lib.hid S6.bk.up
  have HPT := Lib.hid (fun (i : Nat) (hi : i < l0.length) => show ∃ N1 N2 n' ρ, N = N1 ++ (n', ρ) :: N2 ∧ ρ.f = (l0.getD i (0, 0)).1 ∧ ρ.order < x.order ∧ ρ.lost = false ∧ ρ.sent + (x.rtt + win) < now ∧ 0 ≤ ρ.sent from by
    have hm : l0.getD i (0, 0) ∈ l0 := by simp only [List.getD, List.getElem?_eq_getElem hi, Option.getD_some]; exact List.getElem_mem hi
    rcases HM.out _ hm with h | ⟨y, hy, e, h1, h2, h3⟩
    · simp at h
    · have hy2 := HI.out.perm.mem_iff.1 hy
      have h4 := (HI.out.rc y hy2).1.1
      obtain ⟨N1, N2, hN⟩ := List.append_of_mem hy2
      refine ⟨N1, N2, y.1, y.2, hN, by rw [e], h1, h2, h3, h4⟩)
  clear HM
  go_wp2_with fail
  go_loopw [18] (fun i wr => ∃ (k : Nat), i = .int .i64 k ∧ k ≤ l0.length ∧ HS w q r X B T K x s N L a m cap wr ∧ SlS wr a6 l0.length c6 l0) (fun i _ => l0.length - (intOf i).toNat)
  case atStart => exact ⟨0, rfl, by omega, S6, hsl6⟩
  case round =>
    clear S6 hsl6
    obtain ⟨k, rfl, hk, S6, hsl6⟩ := hrel
    by_cases hlt : k < l0.length
    · have hk2 : (k : Int) < (l0.length : Int) := by omega
      have hk0 : (0 : Int) ≤ (k : Int) := by omega
      have hkl : (k : Int) < 60 := by have := HLN.out; omega
      obtain ⟨N1, N2, n', ρ, rfl, hf, ho, hl, hs, h0⟩ := HPT.out k hlt
      have HFST := Lib.hid (fst_mid HUP.out)
      have hcell : ∃ bl off, a6 = some ⟨bl, off, none⟩ ∧ ∀ W, SlS W a6 l0.length c6 l0 → W.cell? ⟨bl, off + k * 2, none⟩ = some (.int .i64 ρ.f) := by
        obtain ⟨bl, off, ha, hc⟩ := hsl6.cells (by omega)
        refine ⟨bl, off, ha, fun W h => ?_⟩
        obtain ⟨bl2, off2, ha2, hc2⟩ := h.cells (by omega)
        rw [ha] at ha2
        injection ha2 with ha2
        injection ha2 with e1 e2
        subst e1 e2
        rw [hf]
        exact (hc2 k hlt).1
      obtain ⟨bl, off, rfl, hcell⟩ := hcell
      have HCL := Lib.hid hcell
      have HMM := Lib.hid (show m ≤ 900000 from by have := S6.ra.len; have := HI.out.len; have := HC60.out; simp at *; omega)
      have HFD := Lib.hid (fun W (h : HS w q r X B T K x s (N1 ++ (n', ρ) :: N2) L a m cap W) => rfind_yes (b := same s (N1 ++ (n', ρ) :: N2)) h.ra HMM.out HFST.out)
      have HSL := Lib.hid hsl6
      have HSS := Lib.hid S6
      have P0 := sb4_of S6.drew.kb
      have P0' := HCL.out _ (hsl6.later (Below.refl _ _).drew)
      have hle := hsl6.le
      have hmost := hsl6.most
      unfold maxLen at hmost
      clear hcell S6 hsl6 hf
      go_upto_region 13 with fail
      go_region_held3 (fun W => Sb4 K a m cap (same s (N1 ++ (n', ρ) :: N2)) W ∧ W.cell? ⟨bl, off + k * 2, none⟩ = some (.int .i64 ρ.f)) (first | with_reducible exact ⟨P1, P1'⟩ | with_reducible exact ⟨P0, P0'⟩ | go_keep)
        ((go_at_call 23; (with_reducible refine (HFD.out _ HSS.out.drew).mono ?_); rintro e w7 ⟨rfl, hb7⟩; have S7 := HSS.out.drew.later hb7; have L7 := (HSL.out.later (Below.refl _ _).drew).later hb7; have P1 := sb4_of S7.kb; have P1' := HCL.out _ L7))
      clear P0 P0' P1 P1' HFD HFST HSL HSS
      have HLT7 := Lib.hid L7
      clear L7
      obtain ⟨rb, ro, rfl, hrc⟩ := S7.ra.at_ (by have := S7.ra.len; simp at this; omega)
      have hNm : N1.length < m := by have := S7.ra.len; simp at this; omega
      obtain ⟨_, _, d2, d3, _, _, d6⟩ := hrc N1.length hNm
      try dsimp only [same] at d2 d3 d6
      rw [at_mid] at d2 d3 d6
      rw [hl] at d6
      have hml := S7.ra.le
      have hmm := S7.ra.most
      unfold maxLen at hmm
      have hNm2 : (N1.length : Int) < (m : Int) := by omega
      have hN0 : ¬ (N1.length : Int) < 0 := by omega
      have hN00 : (0 : Int) ≤ (N1.length : Int) := by omega
      have q0 := (sb4_of S7.kb).1
      have Q1 := Lib.hid (show ∀ k, Calls Try.prog 24 #[.pointer (some ⟨X, 0, none⟩)] (w7.drewN k) fun e w'' => e = .returned (.int .i64 x.rtt) ∧ ∃ m, w'' = w7.drewN m from rtt_q S7.rk)
      have Q2 := Lib.hid (show ∀ k, Calls Try.prog 25 #[.pointer (some ⟨X, 0, none⟩)] (w7.drewN k) fun e w'' => e = .returned (.int .i64 x.order) ∧ ∃ m, w'' = w7.drewN m from order_q S7.rk)
      have HS7 := Lib.hid S7
      have hn1 := HNOW.out
      have hn2 := HNUM.out
      have hn3 := HSM.out
      have hn4 := HNWB.out
      have hsb : wrap64 (now - ρ.sent) = now - ρ.sent := w64 _ (by omega)
      have hsb2 : wrap64 (x.rtt + win) = x.rtt + win := w64 _ (by omega)
      have hsb3 : ¬ now - ρ.sent ≤ x.rtt + win := by omega
      have hsb4 : ¬ x.order ≤ ρ.order := by omega
      have hd3 : decide (now - ρ.sent ≤ x.rtt + win) = false := decide_eq_false hsb3
      have hd4 : decide (x.order ≤ ρ.order) = false := decide_eq_false hsb4
      have hsc : IntKind.i64.wrap (now - ρ.sent) = now - ρ.sent := IntWalk.i64_in _ (by omega)
      have hsc2 : IntKind.i64.wrap (x.rtt + win) = x.rtt + win := IntWalk.i64_in _ (by omega)
      clear hrc S7 hl hs ho hn1 hn2 hn3 hn4
      generalize x.rtt = xr at *
      generalize x.order = xo at *
      generalize ρ.sent = rs at *
      generalize ρ.order = rr at *
      generalize N1.length = nn at *
      go_wp2_with fail
      go_quiet (first | (go_at_call 24; with_reducible exact Q1.out _) | (go_at_call 25; with_reducible exact Q2.out _))
      clear q0 d2 d3 d6 Q1 Q2
      have hk9 := HLN.out
      have HF9 := Lib.hid (fun t => And.intro (HS7.out.drewN t) (HLT7.out.later (belN w7 t)))
      clear HS7 HLT7
      go_wp2_with fail
      go_roundw
      case rel => exact ⟨k + 1, by go_num, by omega, (HF9.out nq).1, (HF9.out nq).2⟩
      case measure => simp [intOf]; omega
    · obtain rfl : l0.length = k := by omega
      clear hsl6 hk hlt HPT HUP
      cases ok with
      | false =>
        have hb9 := S6.hb.below
        clear S6
        go_wp2_with (go_at_call 8; go_must (with_reducible refine (rk.known_b hb9).mono ?_); rintro e w9 ⟨rfl, hb⟩)
        go_ret
        exact ⟨rfl, hb⟩
      | true =>
        obtain ⟨g1, g2, g3, y, hy, g4⟩ := HNX.out rfl
        have hyb := HI.out.rc y (HI.out.perm.mem_iff.1 hy)
        have hwn : IntKind.i64.wrap (nx - 1) = nx - 1 := IntWalk.i64_in _ (by have := HNOW.out; have := HNUM.out; have := HSM.out; have := HNWB.out; omega)
        have HG2 := Lib.hid g2
        have HL3 := Lib.hid (show (lt1 x.order (x.rtt + win) nx L []).1.length ≤ 60 from by have := (lt1_len x.order (x.rtt + win) nx L []).2; have := HI.out.perm.length_eq; have := HI.out.len; have := HC60.out; simp at *; omega)
        clear hyb hy g4 y g2
        go_upto_region 20 with (go_at_call 20; first
          | ((with_reducible refine (HLT2.out _ S6 (nx - 1)).mono ?_); rintro e w9 ⟨v9, rfl, o9, b9⟩; obtain ⟨a9, c9, rfl⟩ := own_form o9; rw [HG2.out]; have S9 := S6.later b9; clear S6 o9 b9)
          | ((with_reducible refine (HLT2.out _ S9 nx).mono ?_); rintro e w10 ⟨v10, rfl, o10, b10⟩; obtain ⟨a10, c10, rfl⟩ := own_form o10; have S10 := S9.later b10; clear S9 o10 b10))
        have hb10 := S10.hb.below
        have hl3 := HL3.out
        have hl4 := HLN.out
        clear S10 HLT2 HG2 HL3
        generalize (lt1 x.order (x.rtt + win) nx L []).1.length = l3 at *
        generalize l0.length = l4 at *
        have g3' : (l4 : Int) < (l3 : Int) := by omega
        go_wp2_with (go_at_call 8; go_must (with_reducible refine (rk.known_b hb10).mono ?_); rintro e w11 ⟨rfl, hb⟩)
        go_ret
        exact ⟨rfl, hb⟩
end Go.Proofs.Ytpoifoanigpncaa.rk
