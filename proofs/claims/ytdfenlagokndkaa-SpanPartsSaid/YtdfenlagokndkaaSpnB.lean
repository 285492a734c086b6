/-
  Layer 6: the walk of the law SpanParts.
-/
import Derived.Test.YtdfenlagokndkaaSpnO
namespace Go.Proofs.Ytdfenlagokndkaa.sp
open Go.RowKit aid mem
attribute [local go_sem ↓] Go.wp_at_zero Go.wp_at_succ
set_option linter.unusedVariables false

theorem sp_newE (w : World) (s : Int × Int) (X : Nat) (h : X = w.heap.size) : SpAt (w.alloc (.cells #[.int .i64 s.1, .int .i64 s.2] 43)) X s := by subst h; exact sp_new w s
theorem sp_newZ (w : World) (X : Nat) (h : X = w.heap.size) : SpAt (w.alloc (.cells #[.int .i64 0, .int .i64 0] 43)) X (0, 0) := by subst h; exact sp_new w (0, 0)
/-- a span's box, its cells and that they may be written -/
theorem SpAt.four {w : World} {B : Nat} {s : Int × Int} (h : SpAt w B s) : w.cell? ⟨B, 0, none⟩ = some (.int .i64 s.1) ∧ w.cell? ⟨B, 1, none⟩ = some (.int .i64 s.2) ∧ w.frozen? ⟨B, 0, none⟩ = false ∧ w.frozen? ⟨B, 1, none⟩ = false := ⟨h.c0, h.c1, h.f0, h.f1⟩

theorem below_al {a w : World} (h : Below a.heap.size a w) (o : Obj) : Below a.heap.size a (w.alloc o) := h.alloc h.size o
theorem below_sc {a w : World} (h : Below a.heap.size a w) {B f : Nat} (hp : a.heap.size ≤ B) (v : Value) : Below a.heap.size a (w.setCell ⟨B, f, none⟩ v) := h.setCell hp v
theorem SpAt.kp {w : World} {B X : Nat} {u v : Value} {s : Int × Int} (hn : B ≠ X) (h : SpAt w B s) : SpAt ((w.setCell ⟨X, 0, none⟩ u).setCell ⟨X, 1, none⟩ v) B s := h.keep (kput _ _ _ _) (by simpa using hn)
theorem SpAt.al {w : World} {B : Nat} {o : Obj} {s : Int × Int} (h : SpAt w B s) : SpAt (w.alloc o) B s := h.later (bal _)
theorem notin_of {B X : Nat} (h : B ≠ X) : B ∉ [X] := by simpa using h

/-- three spans in boxes, wherever they lie -/
structure R3 (w0 : World) (B A C : Nat) (s p q : Int × Int) (w : World) : Prop where
  s : SpAt w B s
  p : SpAt w A p
  q : SpAt w C q
  below : Below w0.heap.size w0 w
theorem R3.later {w0 : World} {B A C : Nat} {s p q : Int × Int} {w w' : World} (h : R3 w0 B A C s p q w) (hb : Below w.heap.size w w') : R3 w0 B A C s p q w' :=
  ⟨h.s.later hb, h.p.later hb, h.q.later hb, h.below.trans (hb.mono h.below.size)⟩
theorem R3.all {w0 : World} {B A C : Nat} {s p q : Int × Int} {w : World} (h : R3 w0 B A C s p q w) : w.cell? ⟨B, 0, none⟩ = some (.int .i64 s.1) ∧ w.cell? ⟨B, 1, none⟩ = some (.int .i64 s.2) ∧ w.cell? ⟨A, 0, none⟩ = some (.int .i64 p.1) ∧ w.cell? ⟨A, 1, none⟩ = some (.int .i64 p.2) ∧ w.cell? ⟨C, 0, none⟩ = some (.int .i64 q.1) ∧ w.cell? ⟨C, 1, none⟩ = some (.int .i64 q.2) :=
  ⟨h.s.c0, h.s.c1, h.p.c0, h.p.c1, h.q.c0, h.q.c1⟩

set_option maxRecDepth 100000 in
set_option maxHeartbeats 6400000 in
theorem walk_SpanParts (w : World) (s : Int × Int) (o : Int) (ho : -9223372036854775808 ≤ o ∧ o ≤ 9223372036854775807) :
    Calls Try.prog 9 #[spV s, .int .i64 o] w fun e w' => e = .returned (.bool true) ∧ Below w.heap.size w w' := by
  have M0 := m1_new w s
  have HA := Lib.hid (below_any s o)
  have HB := Lib.hid (from_any s o)
  have hp1 := parts_len s o
  have hp2 := parts_meet s o
  have hp3 := parts_hull s o
  have hp4 := parts_has s o
  have hp5 := parts_from s o
  have HLP := Lib.hid (len_any (belowP s o))
  have HLQ := Lib.hid (len_any (fromP s o))
  have HLS := Lib.hid (len_any s)
  have HM := meet_any (belowP s o) (fromP s o)
  have HLM := len_any (meetP (belowP s o) (fromP s o))
  rw [hp2] at HLM
  have HU := hull_any [belowP s o, fromP s o]
  rw [hp3] at HU
  have HO := rof_any s
  have HH := has_any (belowP s o) o
  rw [hp4] at HH
  generalize belowP s o = p at *
  generalize fromP s o = q at *
  generalize meetP p q = r at *
  generalize ofP s = f at *
  have eqf := eq_sp f.1 f.2 f.1 f.2
  have eqg := eq_guard
  have bq := lenI_bd q
  have bp := lenI_bd p
  have bs := lenI_bd s
  generalize lenI p = np at *
  generalize lenI q = nq at *
  generalize lenI s = ns at *
  have hw : IntKind.i64.wrap (np + nq) = ns := by rw [hp1]; exact IntWalk.i64_in _ (by omega)
  have HMM := Lib.hid HM; have HLMM := Lib.hid HLM; have HUU := Lib.hid HU; have HOO := Lib.hid HO; have HHH := Lib.hid HH; have HP5 := Lib.hid hp5; have HWW := Lib.hid hw; have EQF := Lib.hid eqf; have EQG := Lib.hid eqg
  clear HM HLM HU HO HH hp1 hp2 hp3 hp4 hp5 hw eqf eqg bq bp bs
  go_enter Try.func9, Try.ntmps9
  go_wp2_with fail
  generalize w.alloc (.cells #[.int .i64 s.1, .int .i64 s.2] 43) = W at *
  generalize hBB : w.heap.size = B at M0 ⊢
  have HBB := Lib.hid hBB
  clear hBB
  refine (known_any _).mono ?_
  rintro e w1 ⟨rfl, h1⟩
  have K := M0.later h1
  clear M0 h1
  go_upto_region 3 with (fail)
  go_cut [5, 6] (fun s5 s6 wx => ∃ A C : Nat, s5 = .pointer (some ⟨A, 0, none⟩) ∧ s6 = .pointer (some ⟨C, 0, none⟩) ∧ R3 w B A C s p q wx)
  case first =>
    clear HLP HLQ HLS HMM HLMM HUU HOO HHH HP5 HWW EQF EQG
    have hwB : w.heap.size ≤ B := by have := HBB.out; omega
    have c0 := K.b0.c0
    have c1 := K.b0.c1
    have n0 := K.b0.lt
    have g1 : w.heap.size ≤ w1.heap.size := Nat.le_trans hwB (Nat.le_of_lt n0)
    have m2 : B ≠ w1.heap.size := by omega
    have m3 : B ≠ w1.heap.size + 1 := by omega
    have KD := K.later (Below.refl _ _).drew
    have KD1 := (K.later (bal (.cells #[.int .i64 0, .int .i64 0] 43))).later (Below.refl _ _).drew
    have KD2 := ((K.later (bal (.cells #[.int .i64 0, .int .i64 0] 43))).later (bal (.cells #[.int .i64 0, .int .i64 0] 43))).later (Below.refl _ _).drew
    have ZA1 := (sp_newZ w1 w1.heap.size rfl).later (Below.refl _ _).drew
    have ZA2 := ((sp_newZ w1 w1.heap.size rfl).later (bal (.cells #[.int .i64 0, .int .i64 0] 43))).later (Below.refl _ _).drew
    have ZA3 := (sp_newZ (w1.alloc (.cells #[.int .i64 0, .int .i64 0] 43)) (w1.heap.size + 1) (by simp)).later (Below.refl _ _).drew
    have HKD := Lib.hid KD; have HKD1 := Lib.hid KD1; have HKD2 := Lib.hid KD2; have HZ1 := Lib.hid ZA1; have HZ2 := Lib.hid ZA2; have HZ3 := Lib.hid ZA3
    have HK := Lib.hid K
    clear KD KD1 KD2 ZA1 ZA2 ZA3
    go_region_held3 (fun w' => w'.cell? ⟨B, 0, none⟩ = some (.int .i64 s.1) ∧ w'.cell? ⟨B, 1, none⟩ = some (.int .i64 s.2)) (first | go_keep) (first
      | (go_at_call 36; (with_reducible refine (HA.out _).mono ?_); rintro e v1 ⟨rfl, ha⟩; (first | (with_reducible have K1 := HKD.out.later ha) | (with_reducible have K1 := HKD1.out.later ha) | (with_reducible have K1 := HKD2.out.later ha)); (try (with_reducible have P1 := HZ1.out.later ha)); (try (with_reducible have P1 := HZ2.out.later ha)); (try (with_reducible have P2 := HZ3.out.later ha)); have d0 := K1.b0.c0; have d1 := K1.b0.c1; have n1 := K1.b0.lt; have g2 : w.heap.size ≤ v1.heap.size := Nat.le_trans hwB (Nat.le_of_lt n1); have m5 : B ≠ v1.heap.size := (by omega); have m6 : B ≠ v1.heap.size + 1 := (by omega); have s5 := m5.symm; have s6 := m6.symm; have s2' := m2.symm; have s3' := m3.symm; have z1 := ha.size; (try simp only [World.size_alloc, World.size_drew] at z1); have HK1 := Lib.hid K1; clear K1 ha c0 c1; (try (obtain ⟨x0, x1, x2, x3⟩ := P1.four; have l1 := P1.lt)); (try (obtain ⟨y0, y1, y2, y3⟩ := P2.four; have l2 := P2.lt)))
      | (go_at_call 38; (with_reducible refine (HB.out _).mono ?_); rintro e v2 ⟨rfl, hb⟩; (first | (with_reducible have K2 := HK1.out.later hb) | (with_reducible have K2 := (HK1.out.later (bal _)).later hb) | (with_reducible have K2 := ((HK1.out.later (bal _)).later (bal _)).later hb)); (try (first | (with_reducible have P1' := P1.later hb) | (with_reducible have P1' := (P1.later (bal _)).later hb))); (try (with_reducible have P2' := P2.later hb)); (try (with_reducible have Q1 := (sp_newZ v1 v1.heap.size rfl).later hb)); (try (with_reducible have Q1 := ((sp_newZ v1 v1.heap.size rfl).later (bal _)).later hb)); (try (with_reducible have Q2 := (sp_newZ (v1.alloc (.cells #[.int .i64 0, .int .i64 0] 43)) (v1.heap.size + 1) (by simp)).later hb)); (try clear x0 x1 x2 x3); (try clear y0 y1 y2 y3); have e0 := K2.b0.c0; have e1 := K2.b0.c1; have n2 := K2.b0.lt; have m7 : B ≠ v2.heap.size := (by omega); have m8 : B ≠ v2.heap.size + 1 := (by omega); have z2 := hb.size; (try simp only [World.size_alloc] at z2); have s7 := m7.symm; have s8 := m8.symm; have HK2 := Lib.hid K2; clear K2 hb d0 d1; (try (obtain ⟨x0, x1, x2, x3⟩ := P1'.four; have l5 := P1'.lt)); (try (obtain ⟨y0, y1, y2, y3⟩ := P2'.four; have l6 := P2'.lt)); (try (obtain ⟨t0, t1, t2, t3⟩ := Q1.four; have l3 := Q1.lt; have a1 : v1.heap.size ≠ v2.heap.size := (by omega); have a2 := a1.symm)); (try (obtain ⟨u0, u1, u2, u3⟩ := Q2.four; have l4 := Q2.lt; have a3 : v1.heap.size + 1 ≠ v2.heap.size := (by omega); have a4 := a3.symm)); (try (have b1 : w1.heap.size ≠ v2.heap.size := (by omega); have b2 := b1.symm; have b3 : w1.heap.size ≠ v1.heap.size := (by omega); have b4 := b3.symm)); (try (have b5 : w1.heap.size + 1 ≠ v2.heap.size := (by omega); have b6 := b5.symm))))
    all_goals
      go_wp2_with fail
      go_meet
      refine ⟨_, _, rfl, rfl, ?_, ?_, ?_, ?_⟩
      · repeat (first | with_reducible exact HK2.out.b0 | with_reducible exact P1' | with_reducible exact P2' | with_reducible exact Q1 | with_reducible exact Q2 | (with_reducible refine sp_newE _ _ _ ?_; simp; done) | (with_reducible apply SpAt.al) | (with_reducible apply SpAt.kp; · (first | with_reducible assumption | exact Nat.ne_of_lt (Nat.lt_succ_self _) | exact (Nat.ne_of_lt (Nat.lt_succ_self _)).symm)) | (with_reducible apply SpAt.put))
      · repeat (first | with_reducible exact HK2.out.b0 | with_reducible exact P1' | with_reducible exact P2' | with_reducible exact Q1 | with_reducible exact Q2 | (with_reducible refine sp_newE _ _ _ ?_; simp; done) | (with_reducible apply SpAt.al) | (with_reducible apply SpAt.kp; · (first | with_reducible assumption | exact Nat.ne_of_lt (Nat.lt_succ_self _) | exact (Nat.ne_of_lt (Nat.lt_succ_self _)).symm)) | (with_reducible apply SpAt.put))
      · repeat (first | with_reducible exact HK2.out.b0 | with_reducible exact P1' | with_reducible exact P2' | with_reducible exact Q1 | with_reducible exact Q2 | (with_reducible refine sp_newE _ _ _ ?_; simp; done) | (with_reducible apply SpAt.al) | (with_reducible apply SpAt.kp; · (first | with_reducible assumption | exact Nat.ne_of_lt (Nat.lt_succ_self _) | exact (Nat.ne_of_lt (Nat.lt_succ_self _)).symm)) | (with_reducible apply SpAt.put))
      · repeat (first | with_reducible exact HK2.out.below | (with_reducible refine below_al ?_ _) | (with_reducible refine below_sc ?_ (by first | exact g1 | exact g2 | exact Nat.le_succ_of_le g1 | exact Nat.le_succ_of_le g2) _))
  case rest =>
    obtain ⟨A, C, rfl, rfl, hR⟩ := hcut
    generalize wc = W3 at *
    by_cases hz : nq = 0
    · subst hz
      have eqf := EQF.out
      have eqg := EQG.out
      have hw := HWW.out
      simp only [Int.add_zero] at hw
      have K0 := hR.later (Below.refl _ _).drew
      clear hR
      go_wp2_with fail
      refine wp_region_noPanic ?_
      refine wp_region_held_drew (S := (fun w' => w'.cell? ⟨B, 0, none⟩ = some (.int .i64 s.1) ∧ w'.cell? ⟨B, 1, none⟩ = some (.int .i64 s.2) ∧ w'.cell? ⟨A, 0, none⟩ = some (.int .i64 p.1) ∧ w'.cell? ⟨A, 1, none⟩ = some (.int .i64 p.2) ∧ w'.cell? ⟨C, 0, none⟩ = some (.int .i64 q.1) ∧ w'.cell? ⟨C, 1, none⟩ = some (.int .i64 q.2))) (by kernel_rfl) ?_ (fun hHeld => ?_)
      · ((try dsimp only); with_reducible exact K0.all)
      refine wpAnyH_take (i := 0) (oi := _) (v := ?_) rfl (by kernel_rfl) (by kernel_rfl) (by kernel_rfl) (fun _ _ _ h => h) (Or.inl ⟨by rfl, ?_⟩) (by assumption) ?_
      rotate_left
      · (first | (intro v hSw; (try dsimp only at hSw); go_simp; done) | (intro v hSw; (try dsimp only at hSw); go_simp; with_reducible rfl))
      (try simp only [Act.put, List.setIfInBounds_toArray])
      refine wpAnyH_take (i := 2) (oi := _) (v := ?_) rfl (by kernel_rfl) (by kernel_rfl) (by kernel_rfl) (fun _ _ _ h => h) (Or.inl ⟨by rfl, ?_⟩) (by assumption) ?_
      rotate_left
      · (first | (intro v hSw; (try dsimp only at hSw); go_simp; done) | (intro v hSw; (try dsimp only at hSw); go_simp; with_reducible rfl))
      (try simp only [Act.put])
      refine wpAnyH_take (i := 5) (oi := _) (v := ?_) rfl (by kernel_rfl) (by kernel_rfl) (by kernel_rfl) (fun _ _ _ h => h) (Or.inl ⟨by rfl, ?_⟩) (by assumption) ?_
      rotate_left
      · (first | (intro v hSw; (try dsimp only at hSw); go_simp; done) | (intro v hSw; (try dsimp only at hSw); go_simp; with_reducible rfl))
      (try simp only [Act.put])
      refine wpAnyH_ready (rs := [1]) (by kernel_rfl) (by simp) ?_
      refine AllReadyH.cons (o := _) rfl (fun K hK => ?_) AllReadyH.nil
      go_simp
      go_at_call 25
      (with_reducible refine (HLP.out _).mono ?_)
      rintro e v1 ⟨rfl, h⟩
      have K1 := K0.later h
      clear K0 h
      (try go_wp2_with fail)
      refine hK.out _ _ ?_ (fun hHeld => ?_)
      · ((try dsimp only); with_reducible exact K1.all)
      clear hK K
      (try simp only [Act.put, List.setIfInBounds_toArray, List.set_cons_zero, List.set_cons_succ])
      refine wpAnyH_ready (rs := [3]) (by kernel_rfl) (by simp) ?_
      refine AllReadyH.cons (o := _) rfl (fun K hK => ?_) AllReadyH.nil
      go_simp
      go_at_call 25
      (with_reducible refine (HLQ.out _).mono ?_)
      rintro e v2 ⟨rfl, h⟩
      have K2 := K1.later h
      clear K1 h
      (try go_wp2_with fail)
      refine hK.out _ _ ?_ (fun hHeld => ?_)
      · ((try dsimp only); with_reducible exact K2.all)
      clear hK K
      (try simp only [Act.put, List.setIfInBounds_toArray, List.set_cons_zero, List.set_cons_succ])
      refine wpAnyH_take (i := 4) (oi := _) (v := ?_) rfl (by kernel_rfl) (by kernel_rfl) (by kernel_rfl) (fun _ _ _ h => h) (Or.inl ⟨by rfl, ?_⟩) (by assumption) ?_
      rotate_left
      · (first | (intro v hSw; (try dsimp only at hSw); go_simp; done) | (intro v hSw; (try dsimp only at hSw); go_simp; with_reducible rfl))
      (try simp only [Act.put, List.setIfInBounds_toArray])
      refine wpAnyH_ready (rs := [6]) (by kernel_rfl) (by simp) ?_
      refine AllReadyH.cons (o := _) rfl (fun K hK => ?_) AllReadyH.nil
      go_simp
      go_at_call 25
      (with_reducible refine (HLS.out _).mono ?_)
      rintro e v3 ⟨rfl, h⟩
      have K3 := K2.later h
      clear K2 h
      (try go_wp2_with fail)
      refine hK.out _ _ ?_ (fun hHeld => ?_)
      · ((try dsimp only); with_reducible exact K3.all)
      clear hK K
      (try simp only [Act.put, List.setIfInBounds_toArray, List.set_cons_zero, List.set_cons_succ])
      refine wpAnyH_take (i := 7) (oi := _) (v := ?_) rfl (by kernel_rfl) (by kernel_rfl) (by kernel_rfl) (fun _ _ _ h => h) (Or.inl ⟨by rfl, ?_⟩) (by assumption) ?_
      rotate_left
      · (first | (intro v hSw; (try dsimp only at hSw); go_simp; done) | (intro v hSw; (try dsimp only at hSw); go_simp; with_reducible rfl))
      (try simp only [Act.put, List.setIfInBounds_toArray])
      refine wpAnyH_take (i := 8) (oi := _) (v := ?_) rfl (by kernel_rfl) (by kernel_rfl) (by kernel_rfl) (fun _ _ _ h => h) (Or.inl ⟨by rfl, ?_⟩) (by assumption) ?_
      rotate_left
      · (first | (intro v hSw; (try dsimp only at hSw); go_simp; done) | (intro v hSw; (try dsimp only at hSw); go_simp; with_reducible rfl))
      (try simp only [Act.put])
      refine wpAnyH_take (i := 9) (oi := _) (v := ?_) rfl (by kernel_rfl) (by kernel_rfl) (by kernel_rfl) (fun _ _ _ h => h) (Or.inl ⟨by rfl, ?_⟩) (by assumption) ?_
      rotate_left
      · (first | (intro v hSw; (try dsimp only at hSw); go_simp; done) | (intro v hSw; (try dsimp only at hSw); go_simp; with_reducible rfl))
      (try simp only [Act.put])
      refine wpAnyH_take (i := 10) (oi := _) (v := ?_) rfl (by kernel_rfl) (by kernel_rfl) (by kernel_rfl) (fun _ _ _ h => h) (Or.inl ⟨by rfl, ?_⟩) (by assumption) ?_
      rotate_left
      · (first | (intro v hSw; (try dsimp only at hSw); go_simp; done) | (intro v hSw; (try dsimp only at hSw); go_simp; with_reducible rfl))
      (try simp only [Act.put])
      refine wpAnyH_ready (rs := [11]) (by kernel_rfl) (by simp) ?_
      refine AllReadyH.cons (o := _) rfl (fun K hK => ?_) AllReadyH.nil
      go_simp
      go_at_call 34
      (with_reducible refine (HMM.out _).mono ?_)
      rintro e v4 ⟨rfl, h⟩
      have K4 := K3.later h
      clear K3 h
      (try go_wp2_with fail)
      refine hK.out _ _ ?_ (fun hHeld => ?_)
      · ((try dsimp only); with_reducible exact K4.all)
      clear hK K
      (try simp only [Act.put, List.setIfInBounds_toArray, List.set_cons_zero, List.set_cons_succ])
      refine wpAnyH_ready (rs := [12]) (by kernel_rfl) (by simp) ?_
      refine AllReadyH.cons (o := _) rfl (fun K hK => ?_) AllReadyH.nil
      go_simp
      go_at_call 25
      (with_reducible refine (HLMM.out _).mono ?_)
      rintro e v5 ⟨rfl, h⟩
      have K5 := K4.later h
      clear K4 h
      (try go_wp2_with fail)
      refine hK.out _ _ ?_ (fun hHeld => ?_)
      · ((try dsimp only); with_reducible exact K5.all)
      clear hK K
      (try simp only [Act.put, List.setIfInBounds_toArray, List.set_cons_zero, List.set_cons_succ])
      refine wpAnyH_take (i := 13) (oi := _) (v := ?_) rfl (by kernel_rfl) (by kernel_rfl) (by kernel_rfl) (fun _ _ _ h => h) (Or.inl ⟨by rfl, ?_⟩) (by assumption) ?_
      rotate_left
      · (first | (intro v hSw; (try dsimp only at hSw); go_simp; done) | (intro v hSw; (try dsimp only at hSw); go_simp; with_reducible rfl))
      (try simp only [Act.put, List.setIfInBounds_toArray])
      refine wpAnyH_take (i := 14) (oi := _) (v := ?_) rfl (by kernel_rfl) (by kernel_rfl) (by kernel_rfl) (fun _ _ _ h => h) (Or.inl ⟨by rfl, ?_⟩) (by assumption) ?_
      rotate_left
      · (first | (intro v hSw; (try dsimp only at hSw); go_simp; done) | (intro v hSw; (try dsimp only at hSw); go_simp; with_reducible rfl))
      (try simp only [Act.put])
      refine wpAnyH_take (i := 15) (oi := _) (v := ?_) rfl (by kernel_rfl) (by kernel_rfl) (by kernel_rfl) (fun _ _ _ h => h) (Or.inl ⟨by rfl, ?_⟩) (by assumption) ?_
      rotate_left
      · (first | (intro v hSw; (try dsimp only at hSw); go_simp; done) | (intro v hSw; (try dsimp only at hSw); go_simp; with_reducible rfl))
      (try simp only [Act.put])
      refine wpAnyH_take (i := 16) (oi := _) (v := ?_) rfl (by kernel_rfl) (by kernel_rfl) (by kernel_rfl) (fun _ _ _ h => h) (Or.inl ⟨by rfl, ?_⟩) (by assumption) ?_
      rotate_left
      · (first | (intro v hSw; (try dsimp only at hSw); go_simp; done) | (intro v hSw; (try dsimp only at hSw); go_simp; with_reducible rfl))
      (try simp only [Act.put])
      refine wpAnyH_take (i := 17) (oi := _) (v := ?_) rfl (by kernel_rfl) (by kernel_rfl) (by kernel_rfl) (fun _ _ _ h => h) (Or.inl ⟨by rfl, ?_⟩) (by assumption) ?_
      rotate_left
      · (first | (intro v hSw; (try dsimp only at hSw); go_simp; done) | (intro v hSw; (try dsimp only at hSw); go_simp; with_reducible rfl))
      (try simp only [Act.put])
      refine wpAnyH_take (i := 20) (oi := _) (v := ?_) rfl (by kernel_rfl) (by kernel_rfl) (by kernel_rfl) (fun _ _ _ h => h) (Or.inl ⟨by rfl, ?_⟩) (by assumption) ?_
      rotate_left
      · (first | (intro v hSw; (try dsimp only at hSw); go_simp; done) | (intro v hSw; (try dsimp only at hSw); go_simp; with_reducible rfl))
      (try simp only [Act.put])
      refine wpAnyH_ready (rs := [18]) (by kernel_rfl) (by simp) ?_
      refine AllReadyH.cons (o := _) rfl (fun K hK => ?_) AllReadyH.nil
      go_simp
      refine hK.out _ _ ?_ (fun hHeld => ?_)
      · ((try dsimp only); with_reducible exact (K5.later (bal _)).all)
      clear hK K
      (try simp only [Act.put, List.setIfInBounds_toArray, List.set_cons_zero, List.set_cons_succ])
      refine wpAnyH_ready (rs := [19]) (by kernel_rfl) (by simp) ?_
      refine AllReadyH.cons (o := _) rfl (fun K hK => ?_) AllReadyH.nil
      go_simp
      go_at_call 40
      (with_reducible refine (HUU.out _ 2 2 _ (sls_two _ p q _)).mono ?_)
      rintro e v6 ⟨rfl, h⟩
      have K6 := (K5.later (bal _)).later h
      clear K5 h
      (try go_wp2_with fail)
      refine hK.out _ _ ?_ (fun hHeld => ?_)
      · ((try dsimp only); with_reducible exact K6.all)
      clear hK K
      (try simp only [Act.put, List.setIfInBounds_toArray, List.set_cons_zero, List.set_cons_succ])
      refine wpAnyH_ready (rs := [21]) (by kernel_rfl) (by simp) ?_
      refine AllReadyH.cons (o := _) rfl (fun K hK => ?_) AllReadyH.nil
      go_simp
      go_at_call 42
      (with_reducible refine (HOO.out _).mono ?_)
      rintro e v7 ⟨rfl, h⟩
      have K7 := K6.later h
      clear K6 h
      (try go_wp2_with fail)
      refine hK.out _ _ ?_ (fun hHeld => ?_)
      · ((try dsimp only); with_reducible exact K7.all)
      clear hK K
      (try simp only [Act.put, List.setIfInBounds_toArray, List.set_cons_zero, List.set_cons_succ])
      refine wpAnyH_take (i := 22) (oi := _) (v := ?_) rfl (by kernel_rfl) (by kernel_rfl) (by kernel_rfl) (fun _ _ _ h => h) (Or.inl ⟨by rfl, ?_⟩) (by assumption) ?_
      rotate_left
      · (first | (intro v hSw; (try dsimp only at hSw); go_simp; done) | (intro v hSw; (try dsimp only at hSw); go_simp; with_reducible rfl))
      (try simp only [Act.put, List.setIfInBounds_toArray])
      refine wpAnyH_take (i := 23) (oi := _) (v := ?_) rfl (by kernel_rfl) (by kernel_rfl) (by kernel_rfl) (fun _ _ _ h => h) (Or.inl ⟨by rfl, ?_⟩) (by assumption) ?_
      rotate_left
      · (first | (intro v hSw; (try dsimp only at hSw); go_simp; done) | (intro v hSw; (try dsimp only at hSw); go_simp; with_reducible rfl))
      (try simp only [Act.put])
      refine wpAnyH_take (i := 24) (oi := _) (v := ?_) rfl (by kernel_rfl) (by kernel_rfl) (by kernel_rfl) (fun _ _ _ h => h) (Or.inl ⟨by rfl, ?_⟩) (by assumption) ?_
      rotate_left
      · (first | (intro v hSw; (try dsimp only at hSw); go_simp; done) | (intro v hSw; (try dsimp only at hSw); go_simp; with_reducible rfl))
      (try simp only [Act.put])
      refine wpAnyH_take (i := 25) (oi := _) (v := ?_) rfl (by kernel_rfl) (by kernel_rfl) (by kernel_rfl) (fun _ _ _ h => h) (Or.inl ⟨by rfl, ?_⟩) (by assumption) ?_
      rotate_left
      · (first | (intro v hSw; (try dsimp only at hSw); go_simp; done) | (intro v hSw; (try dsimp only at hSw); go_simp; with_reducible rfl))
      (try simp only [Act.put])
      refine wpAnyH_take (i := 26) (oi := _) (v := ?_) rfl (by kernel_rfl) (by kernel_rfl) (by kernel_rfl) (fun _ _ _ h => h) (Or.inl ⟨by rfl, ?_⟩) (by assumption) ?_
      rotate_left
      · (first | (intro v hSw; (try dsimp only at hSw); go_simp; done) | (intro v hSw; (try dsimp only at hSw); go_simp; with_reducible rfl))
      (try simp only [Act.put])
      refine wpAnyH_ready (rs := [27]) (by kernel_rfl) (by simp) ?_
      refine AllReadyH.cons (o := _) rfl (fun K hK => ?_) AllReadyH.nil
      go_simp
      go_at_call 27
      (with_reducible refine (HHH.out _).mono ?_)
      rintro e v8 ⟨rfl, h⟩
      have K8 := K7.later h
      clear K7 h
      (try go_wp2_with fail)
      refine hK.out _ _ ?_ (fun hHeld => ?_)
      · ((try dsimp only); with_reducible exact K8.all)
      clear hK K
      (try simp only [Act.put, List.setIfInBounds_toArray, List.set_cons_zero, List.set_cons_succ])
      refine wpAnyH_take (i := 28) (oi := _) (v := ?_) rfl (by kernel_rfl) (by kernel_rfl) (by kernel_rfl) (fun _ _ _ h => h) (Or.inl ⟨by rfl, ?_⟩) (by assumption) ?_
      rotate_left
      · (first | (intro v hSw; (try dsimp only at hSw); go_simp; done) | (intro v hSw; (try dsimp only at hSw); go_simp; with_reducible rfl))
      (try simp only [Act.put, List.setIfInBounds_toArray])
      refine wpAnyH_take (i := 29) (oi := _) (v := ?_) rfl (by kernel_rfl) (by kernel_rfl) (by kernel_rfl) (fun _ _ _ h => h) (Or.inl ⟨by rfl, ?_⟩) (by assumption) ?_
      rotate_left
      · (first | (intro v hSw; (try dsimp only at hSw); go_simp; done) | (intro v hSw; (try dsimp only at hSw); go_simp; with_reducible rfl))
      (try simp only [Act.put])
      refine wpAnyH_take (i := 30) (oi := _) (v := ?_) rfl (by kernel_rfl) (by kernel_rfl) (by kernel_rfl) (fun _ _ _ h => h) (Or.inl ⟨by rfl, ?_⟩) (by assumption) ?_
      rotate_left
      · (first | (intro v hSw; (try dsimp only at hSw); go_simp; done) | (intro v hSw; (try dsimp only at hSw); go_simp; with_reducible rfl))
      (try simp only [Act.put])
      refine wpAnyH_take (i := 31) (oi := _) (v := ?_) rfl (by kernel_rfl) (by kernel_rfl) (by kernel_rfl) (fun _ _ _ h => h) (Or.inl ⟨by rfl, ?_⟩) (by assumption) ?_
      rotate_left
      · (first | (intro v hSw; (try dsimp only at hSw); go_simp; done) | (intro v hSw; (try dsimp only at hSw); go_simp; with_reducible rfl))
      (try simp only [Act.put])
      refine wpAnyH_ready (rs := [32]) (by kernel_rfl) (by simp) ?_
      refine AllReadyH.cons (o := _) rfl (fun K hK => ?_) AllReadyH.nil
      go_simp
      go_at_call 25
      (with_reducible refine (HLQ.out _).mono ?_)
      rintro e v9 ⟨rfl, h⟩
      have K9 := K8.later h
      clear K8 h
      (try go_wp2_with fail)
      refine hK.out _ _ ?_ (fun hHeld => ?_)
      · ((try dsimp only); with_reducible exact K9.all)
      clear hK K
      (try simp only [Act.put, List.setIfInBounds_toArray, List.set_cons_zero, List.set_cons_succ])
      refine wpAnyH_take (i := 33) (oi := _) (v := ?_) rfl (by kernel_rfl) (by kernel_rfl) (by kernel_rfl) (fun _ _ _ h => h) (Or.inl ⟨by rfl, ?_⟩) (by assumption) ?_
      rotate_left
      · (first | (intro v hSw; (try dsimp only at hSw); go_simp; done) | (intro v hSw; (try dsimp only at hSw); go_simp; with_reducible rfl))
      (try simp only [Act.put, List.setIfInBounds_toArray])
      refine wpAnyH_take (i := 34) (oi := _) (v := ?_) rfl (by kernel_rfl) (by kernel_rfl) (by kernel_rfl) (fun _ _ _ h => h) (Or.inl ⟨by rfl, ?_⟩) (by assumption) ?_
      rotate_left
      · (first | (intro v hSw; (try dsimp only at hSw); go_simp; done) | (intro v hSw; (try dsimp only at hSw); go_simp; with_reducible rfl))
      (try simp only [Act.put])
      refine wpAnyH_take (i := 35) (oi := _) (v := undef) rfl (by kernel_rfl) (by kernel_rfl) (by kernel_rfl) (fun _ _ _ h => h) (Or.inr ⟨by rfl, rfl⟩) (by assumption) ?_
      (try simp only [Act.put])
      refine wpAnyH_take (i := 37) (oi := _) (v := undef) rfl (by kernel_rfl) (by kernel_rfl) (by kernel_rfl) (fun _ _ _ h => h) (Or.inr ⟨by rfl, rfl⟩) (by assumption) ?_
      (try simp only [Act.put])
      refine wpAnyH_take (i := 36) (oi := _) (v := undef) rfl (by kernel_rfl) (by kernel_rfl) (by kernel_rfl) (fun _ _ _ h => h) (Or.inr ⟨by rfl, rfl⟩) (by assumption) ?_
      (try simp only [Act.put])
      refine wpAnyH_take (i := 38) (oi := _) (v := undef) rfl (by kernel_rfl) (by kernel_rfl) (by kernel_rfl) (fun _ _ _ h => h) (Or.inr ⟨by rfl, rfl⟩) (by assumption) ?_
      (try simp only [Act.put])
      refine wpAnyH_take (i := 39) (oi := _) (v := ?_) rfl (by kernel_rfl) (by kernel_rfl) (by kernel_rfl) (fun _ _ _ h => h) (Or.inl ⟨by rfl, ?_⟩) (by assumption) ?_
      rotate_left
      · (first | (intro v hSw; (try dsimp only at hSw); go_simp; done) | (intro v hSw; (try dsimp only at hSw); go_simp; with_reducible rfl))
      (try simp only [Act.put])
      refine wpAnyH_take (i := 40) (oi := _) (v := ?_) rfl (by kernel_rfl) (by kernel_rfl) (by kernel_rfl) (fun _ _ _ h => h) (Or.inl ⟨by rfl, ?_⟩) (by assumption) ?_
      rotate_left
      · (first | (intro v hSw; (try dsimp only at hSw); go_simp; done) | (intro v hSw; (try dsimp only at hSw); go_simp; with_reducible rfl))
      (try simp only [Act.put])
      refine wpAnyH_take (i := 41) (oi := _) (v := ?_) rfl (by kernel_rfl) (by kernel_rfl) (by kernel_rfl) (fun _ _ _ h => h) (Or.inl ⟨by rfl, ?_⟩) (by assumption) ?_
      rotate_left
      · (first | (intro v hSw; (try dsimp only at hSw); go_simp; done) | (intro v hSw; (try dsimp only at hSw); go_simp; with_reducible rfl))
      (try simp only [Act.put])
      refine wpAnyH_ready (rs := [42]) (by kernel_rfl) (by simp) ?_
      refine AllReadyH.cons (o := _) rfl (fun K hK => ?_) AllReadyH.nil
      go_simp
      go_at_call 22
      (with_reducible refine (known_any _).mono ?_)
      rintro e v10 ⟨rfl, h⟩
      have K10 := K9.later h
      clear K9 h
      (try go_wp2_with fail)
      refine hK.out _ _ ?_ (fun hHeld => ?_)
      · ((try dsimp only); with_reducible exact K10.all)
      clear hK K
      (try simp only [Act.put, List.setIfInBounds_toArray, List.set_cons_zero, List.set_cons_succ])
      refine wpAnyH_take (i := 43) (oi := _) (v := ?_) rfl (by kernel_rfl) (by kernel_rfl) (by kernel_rfl) (fun _ _ _ h => h) (Or.inl ⟨by rfl, ?_⟩) (by assumption) ?_
      rotate_left
      · (first | (intro v hSw; (try dsimp only at hSw); go_simp; done) | (intro v hSw; (try dsimp only at hSw); go_simp; with_reducible rfl))
      (try simp only [Act.put, List.setIfInBounds_toArray])
      refine wpAnyH_ready (rs := [44]) (by kernel_rfl) (by simp) ?_
      refine AllReadyH.cons (o := _) rfl (fun K hK => ?_) AllReadyH.nil
      go_simp
      refine hK.out _ _ ?_ (fun hHeld => ?_)
      · ((try dsimp only); with_reducible exact K10.all)
      clear hK K
      (try simp only [Act.put, List.setIfInBounds_toArray, List.set_cons_zero, List.set_cons_succ])
      refine wpAnyH_done (by kernel_rfl) ?_ _
      refine NoPanic.normal ?_
      have hb10 := Lib.hid K10.below
      clear K10
      go_wp2
      go_ret
      exact ⟨rfl, by first | exact hb10.out | (rw [← HBB.out]; exact hb10.out)⟩
    · have hz1 : (nq == 0) = false := by simpa using hz
      have hge : o ≤ q.1 := HP5.out hz
      have eqf := EQF.out
      have eqg := EQG.out
      have hw := HWW.out
      clear hz
      have K0 := hR.later (Below.refl _ _).drew
      clear hR
      go_wp2_with fail
      go_region_held3 (fun w' => w'.cell? ⟨B, 0, none⟩ = some (.int .i64 s.1) ∧ w'.cell? ⟨B, 1, none⟩ = some (.int .i64 s.2) ∧ w'.cell? ⟨A, 0, none⟩ = some (.int .i64 p.1) ∧ w'.cell? ⟨A, 1, none⟩ = some (.int .i64 p.2) ∧ w'.cell? ⟨C, 0, none⟩ = some (.int .i64 q.1) ∧ w'.cell? ⟨C, 1, none⟩ = some (.int .i64 q.2)) (first | with_reducible exact K10.all | with_reducible exact K9.all | with_reducible exact K8.all | with_reducible exact K7.all | with_reducible exact K6.all | with_reducible exact K5.all | with_reducible exact K4.all | with_reducible exact K3.all | with_reducible exact K2.all | with_reducible exact K1.all | with_reducible exact K0.all | with_reducible exact (K5.later (bal _)).all | go_keep) (first
        | (go_at_call 25; (with_reducible refine (HLP.out _).mono ?_); rintro e v1 ⟨rfl, h⟩; have K1 := K0.later h; clear K0 h)
        | (go_at_call 25; (with_reducible refine (HLQ.out _).mono ?_); rintro e v2 ⟨rfl, h⟩; have K2 := K1.later h; clear K1 h)
        | (go_at_call 25; (with_reducible refine (HLS.out _).mono ?_); rintro e v3 ⟨rfl, h⟩; have K3 := K2.later h; clear K2 h)
        | (go_at_call 34; (with_reducible refine (HMM.out _).mono ?_); rintro e v4 ⟨rfl, h⟩; have K4 := K3.later h; clear K3 h)
        | (go_at_call 25; (with_reducible refine (HLMM.out _).mono ?_); rintro e v5 ⟨rfl, h⟩; have K5 := K4.later h; clear K4 h)
        | (go_at_call 40; (with_reducible refine (HUU.out _ 2 2 _ (sls_two _ p q _)).mono ?_); rintro e v6 ⟨rfl, h⟩; have K6 := (K5.later (bal _)).later h; clear K5 h)
        | (go_at_call 42; (with_reducible refine (HOO.out _).mono ?_); rintro e v7 ⟨rfl, h⟩; have K7 := K6.later h; clear K6 h)
        | (go_at_call 27; (with_reducible refine (HHH.out _).mono ?_); rintro e v8 ⟨rfl, h⟩; have K8 := K7.later h; clear K7 h)
        | (go_at_call 25; (with_reducible refine (HLQ.out _).mono ?_); rintro e v9 ⟨rfl, h⟩; have K9 := K8.later h; clear K8 h)
        | (go_at_call 22; (with_reducible refine (known_any _).mono ?_); rintro e v10 ⟨rfl, h⟩; have K10 := K9.later h; clear K9 h))
      all_goals
        have hb10 := Lib.hid K10.below
        clear K10
        go_wp2
        go_ret
        exact ⟨rfl, by first | exact hb10.out | (rw [← HBB.out]; exact hb10.out)⟩
end Go.Proofs.Ytdfenlagokndkaa.sp
