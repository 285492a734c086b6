/-
  Several texts in one: DctR
-/
import Derived.Test.YtahegkbdefhlpaaM2
/-!   DuctOnce: the walk.
-/
namespace Go.Proofs.Ytahegkbdefhlpaa.dc
open Go.RowKit Go.Shelf Go.Maps aid mem
attribute [local go_sem ↓] Go.wp_at_zero Go.wp_at_succ
set_option linter.unusedVariables false
set_option linter.unusedSimpArgs false

section
variable {w W W' : World} {B : Nat} {h : Hm} {x x' : Dk} {v : Value} {e : Ending} (S : DS w B h x W)
include S
theorem DS.wroteH (r : RetS v B h x' W e W') : e = .returned v ∧ (∃ h', DS w B h' x' W') ∧ Kept (blks B h) W W' := by
  have hs := S.wrote r
  obtain ⟨rfl, h', d, k, b⟩ := r
  exact ⟨rfl, hs.2, k⟩
theorem ds_dropH (hn : x.l.length ≤ 1000000) (id now : Int) (hi : -9223372036854775808 ≤ id ∧ id ≤ 9223372036854775807) :
    Calls Try.prog 14 #[.pointer (some ⟨B, 0, none⟩), .int .i64 id, .int .i64 now] W fun e w' => e = .returned (.int .i64 (whichE x id now)) ∧ (∃ h', DS w B h' (endX x id now 2) w') ∧ Kept (blks B h) W w' :=
  (drop_any S.d hn id now hi).mono fun e w' q => S.wroteH q
theorem ds_takeH (hn : x.l.length ≤ 1000000) (id now : Int) (hi : -9223372036854775808 ≤ id ∧ id ≤ 9223372036854775807) (hr : ∀ i ∈ fly x.l, (cpAt x.l i).raw.length ≤ 1000000) :
    Calls Try.prog 15 #[.pointer (some ⟨B, 0, none⟩), .int .i64 id, .int .i64 now] W fun e w' => ∃ a cap, e = .returned (.tuple #[.slice a (takL x id now).length cap, .int .i64 (whichE x id now)]) ∧ BRow w' a (takL x id now).length cap (takL x id now) ∧ (∃ h', DS w B h' (endX x id now 1) w') ∧ Kept (blks B h) W w' :=
  (take_any S.d hn id now hi hr).mono fun e w' ⟨a, cap, q1, q2⟩ => ⟨a, cap, (S.wroteH q2).1, q1, (S.wroteH q2).2⟩
end
abbrev ftO (f a e k : Int) : Obj := .cells #[.int .i64 f, .int .i64 a, .int .i64 e, .int .i64 k] 41
theorem ft_cs {W : World} {b : Nat} {f a e k : Int} (h : W.heap[b]? = some (.cells #[.int .i64 f, .int .i64 a, .int .i64 e, .int .i64 k] 41 (0, 0))) :
    W.cell? ⟨b, 0, none⟩ = some (.int .i64 f) ∧ W.cell? ⟨b, 1, none⟩ = some (.int .i64 a) ∧ W.cell? ⟨b, 2, none⟩ = some (.int .i64 e) ∧ W.cell? ⟨b, 3, none⟩ = some (.int .i64 k) := ⟨cofr h 0 _ rfl, cofr h 1 _ rfl, cofr h 2 _ rfl, cofr h 3 _ rfl⟩
set_option maxRecDepth 100000 in
set_option maxHeartbeats 8000000 in
theorem walk_DuctOnce (w : World) (la : Option Addr) (ln lc : Nat) (L : List RwV) (hL : RwA w la ln lc L) (pa : Option Addr) (pn pc : Nat) (l : List OpV) (hl : OpA w pa pn pc l) :
    Calls Try.prog 4 #[.slice la ln lc, .slice pa pn pc] w fun x w' => x = .returned (.bool true) ∧ Below w.heap.size w w' := by
  have h1 := hL.le
  have h2 := hL.most
  have h3 := hl.le
  have h4 := hl.most
  unfold maxLen at h2 h4
  have HLC := Lib.hid hL.cells
  have HOC := Lib.hid hl.cells
  clear hL hl
  have HN := Lib.hid (fun W (hb : Below w.heap.size w W) => ds_new (w0 := w) hb)
  have HLN := Lib.hid (fun (B : Nat) (h : Hm) (x : Dk) W (S : DS w B h x W) => ds_len S)
  have HTO := Lib.hid (fun (B : Nat) (h : Hm) (x : Dk) (n : Nat) (hn : x.l.length = n) W (S : DS w B h x W) => show Calls Try.prog 18 #[.pointer (some ⟨B, 0, none⟩)] W fun e w' => e = .returned (.int .i64 (n : Nat)) ∧ DS w B h x w' from by
    have := ds_total S
    rwa [hn] at this)
  have P0 : Pu L 0 ⟨0, []⟩ := ⟨Nat.le_refl _, fun j hj => by simp at hj, by decide⟩
  have hb0 := Below.refl w.heap.size w
  go_enter Try.func4, Try.ntmps4
  go_wp2_with (first
    | (go_at_call 7; (with_reducible refine (known_b hb0).mono ?_); clear hb0; rintro e w1 ⟨rfl, hb0⟩)
    | (go_at_call 8; (with_reducible refine (HN.out _ hb0).mono ?_); rintro e w2 ⟨B, h, rfl, S⟩))
  go_loopw [6, 7] (fun s6 s7 wr => ∃ (i : Nat) (h : Hm) (x : Dk), s6 = .int .i64 (x.l.length : Nat) ∧ s7 = .int .i64 i ∧ i ≤ ln ∧ i ≤ 60 ∧ Pu L i x ∧ DS w B h x wr) (fun _ i _ => 60 - (intOf i).toNat)
  case atStart => exact ⟨0, h, _, rfl, rfl, by omega, by omega, P0, S⟩
  case round =>
    obtain ⟨i, h, x, rfl, rfl, hi1, hi2, P, S⟩ := hrel
    clear P0
    by_cases hlt : i < ln ∧ i < 60
    · obtain ⟨hlt, hlt6⟩ := hlt
      obtain ⟨b, off, rfl, hc⟩ := HLC.out (by omega)
      obtain ⟨c0, hsl⟩ := hc i hlt
      clear hc
      have cl := (S.below.cell (p := ⟨b, off + i, none⟩) (World.block_lt_of_cell? w _ c0)).trans c0
      have hsl2 := hsl.later S.below
      have hlen := hsl2.len
      have hxl : x.l.length ≤ 1000000 := by have := P.le; omega
      by_cases hbig : 2096 < (L.getD i default).n
      · obtain ⟨e1, e2⟩ := P.long hlt6 hbig
        have HP := Lib.hid (show Calls Try.prog 12 #[.pointer (some ⟨B, 0, none⟩), .slice (L.getD i default).a (L.getD i default).n (L.getD i default).c, .int .i64 (i : Nat)] wr fun e w' => e = .returned (.tuple #[.int .i64 0, .int .i64 9]) ∧ ∃ h', DS w B h' x w' from by
          have := ds_put S hxl hsl2 (i : Int)
          rw [e1, show putN x (L.getD i default).n i = 0 from by unfold putN; rw [if_neg (by rw [e1]; decide)], show putX x (L.getD i default).l i = x from by unfold putX; rw [hlen, e1, if_neg (by decide)]] at this
          exact this)
        generalize L.getD i default = u at *
        clear S hsl hsl2 e1 hlen c0
        go_wp2_with (go_at_call 12; go_must (with_reducible refine HP.out.mono ?_); rintro e w3 ⟨rfl, h', S⟩)
        go_roundw
        case measure => simp [intOf]; omega
        case rel => exact ⟨i + 1, h', x, rfl, by first | rfl | simp, by omega, by omega, e2, S⟩
      · obtain ⟨e1, e2, e3⟩ := P.put (L := L) hlt6 (by rw [hlen]; exact hbig)
        have HP := Lib.hid (show Calls Try.prog 12 #[.pointer (some ⟨B, 0, none⟩), .slice (L.getD i default).a (L.getD i default).n (L.getD i default).c, .int .i64 (i : Nat)] wr fun e w' => e = .returned (.tuple #[.int .i64 (x.l.length : Nat), .int .i64 0]) ∧ ∃ h', DS w B h' (putX x (L.getD i default).l i) w' from by
          have := ds_put S hxl hsl2 (i : Int)
          rw [← hlen] at this ⊢
          rw [e1, show putN x (L.getD i default).l.length i = (x.l.length : Nat) from by unfold putN; rw [if_pos e1]] at this
          exact this)
        generalize putX x (L.getD i default).l i = y at *
        generalize L.getD i default = u at *
        have HR := Lib.hid (And.intro e2 e3)
        clear S hsl hsl2 e1 hlen c0 e2 e3
        go_wp2_with (go_at_call 12; go_must (with_reducible refine HP.out.mono ?_); rintro e w3 ⟨rfl, h', S⟩)
        go_roundw
        case measure => simp [intOf]; omega
        case rel => exact ⟨i + 1, h', y, by rw [HR.out.2]; rfl, by first | rfl | simp, by omega, by omega, HR.out.1, S⟩
    · have hM : Hid (i ≤ ln ∧ i ≤ 60) := Lib.hid ⟨hi1, hi2⟩
      have Q0 := P.qn hi2
      obtain ⟨n, hn⟩ : ∃ n, n = x.l.length := ⟨_, rfl⟩
      rw [← hn] at Q0 ⊢
      have hlt' : ¬ (i < ln ∧ i < 60) := hlt
      clear hn P
      generalize hMM : i = M at *
      clear hMM
      go_wp2_with fail
      all_goals
        go_loopw [10, 11, 12] (fun s10 s11 s12 wq => ∃ (j came dropped : Nat) (h : Hm) (y : Dk), s10 = .int .i64 came ∧ s11 = .int .i64 dropped ∧ s12 = .int .i64 j ∧ j ≤ pn ∧ j ≤ 200 ∧ Qn L M n came dropped j y ∧ DS w B h y wq) (fun _ _ i _ => 200 - (intOf i).toNat)
        case atStart => exact ⟨0, 0, 0, h, x, rfl, rfl, rfl, by omega, by omega, Q0, S⟩
        case round =>
          clear S Q0
          obtain ⟨j, came, dropped, h, y, rfl, rfl, rfl, hj1, hj2, Q, S⟩ := hrel
          have hyl : y.l.length ≤ 1000000 := by have := Q.len; have := Q.n60; omega
          by_cases hlj : j < pn ∧ j < 200
          · obtain ⟨hlj, hlj2⟩ := hlj
            obtain ⟨bo, oo, rfl, hc⟩ := HOC.out (by omega)
            obtain ⟨c0, c1, _, _, hk0, hid⟩ := hc j hlj
            have hid := hid.1
            clear hc
            generalize l.getD j default = u at *
            obtain ⟨k0, k1⟩ := hk0
            have HCC := Lib.hid (fun W (hb : Below w.heap.size w W) => show W.cell? ⟨bo, oo + j * 4, none⟩ = some (.int .u8 u.kind) ∧ W.cell? ⟨bo, oo + j * 4 + 1, none⟩ = some (.int .i64 u.id) from ⟨(hb.cell (World.block_lt_of_cell? w _ c0)).trans c0, (hb.cell (World.block_lt_of_cell? w _ c1)).trans c1⟩)
            clear c0 c1
            obtain ⟨c0, c1⟩ := HCC.out _ S.below
            have HFT := Lib.hid (show Calls Try.prog 13 #[.pointer (some ⟨B, 0, none⟩), .int .i64 u.id] wr fun e w' => e = .returned (.tuple #[.agg #[.int .i64 (ftI y u.id).f, .int .i64 (ftI y u.id).a, .int .i64 (ftI y u.id).e, .int .i64 (ftI y u.id).k], .bool (decide (fdI y u.id))]) ∧ DS w B h y w' from ds_fate S hyl u.id)
            have hwr : IntKind.i64.wrap (100 + (j : Int)) = 100 + (j : Int) := IntWalk.i64_in _ (by omega)
            have hwj : IntKind.i64.wrap ((j : Int) + 1) = ((j + 1 : Nat) : Int) := by rw [IntWalk.i64_in _ (by omega)]; omega
            have hwc : IntKind.i64.wrap ((came : Int) + 1) = ((came + 1 : Nat) : Int) := by have := Q.cnt; have := Q.n60; rw [IntWalk.i64_in _ (by omega)]; omega
            have hwd : IntKind.i64.wrap ((dropped : Int) + 1) = ((dropped + 1 : Nat) : Int) := by have := Q.cnt; have := Q.n60; rw [IntWalk.i64_in _ (by omega)]; omega
            by_cases hev : u.kind % 2 = 0
            · by_cases hF : isF y u.id
              · have HDR := Lib.hid (fun W (S : DS w B h y W) => show Calls Try.prog 14 #[.pointer (some ⟨B, 0, none⟩), .int .i64 u.id, .int .i64 (100 + (j : Int))] W fun e w' => e = .returned (.int .i64 0) ∧ (∃ h', DS w B h' (endX y u.id (100 + (j : Int)) 2) w') ∧ Kept (blks B h) W w' from by
                  have := ds_dropH S hyl u.id (100 + (j : Int)) hid
                  rwa [Q.which hlj2, if_pos hF] at this)
                have HQ := Lib.hid (Q.drop hlj2 hF)
                generalize ftI y u.id = ft at *
                generalize decide (fdI y u.id) = fd at *
                generalize endX y u.id (100 + (j : Int)) 2 = y2 at *
                clear S Q hF
                go_wp2_with (first
                  | (go_at_call 13; go_must (with_reducible refine HFT.out.mono ?_); rintro e w3 ⟨rfl, S⟩; replace S := S.later (bal (w := w3) (ftO ft.f ft.a ft.e ft.k)); obtain ⟨c0, c1⟩ := HCC.out _ S.below)
                  | (go_at_call 14; go_must (with_reducible refine (HDR.out _ S).mono ?_); clear S; rintro e w4 ⟨rfl, ⟨h', S⟩, _⟩))
                go_roundw
                case measure => simp [intOf]; omega
                case rel => exact ⟨j + 1, came, dropped + 1, h', y2, rfl, by first | rfl | simp, by first | rfl | simp, by omega, by omega, HQ.out, S⟩
              · have HDR := Lib.hid (fun W (S : DS w B h y W) => show Calls Try.prog 14 #[.pointer (some ⟨B, 0, none⟩), .int .i64 u.id, .int .i64 (100 + (j : Int))] W fun e w' => e = .returned (.int .i64 10) ∧ (∃ h', DS w B h' y w') ∧ Kept (blks B h) W w' from by
                  have := ds_dropH S hyl u.id (100 + (j : Int)) hid
                  rwa [(Q.none hlj2 hF 2).1, (Q.none hlj2 hF 2).2.1] at this)
                have HQ := Lib.hid Q.next
                generalize ftI y u.id = ft at *
                generalize decide (fdI y u.id) = fd at *
                clear S Q hF
                go_wp2_with (first
                  | (go_at_call 13; go_must (with_reducible refine HFT.out.mono ?_); rintro e w3 ⟨rfl, S⟩; replace S := S.later (bal (w := w3) (ftO ft.f ft.a ft.e ft.k)); obtain ⟨c0, c1⟩ := HCC.out _ S.below)
                  | (go_at_call 14; go_must (with_reducible refine (HDR.out _ S).mono ?_); clear S; rintro e w4 ⟨rfl, ⟨h', S⟩, _⟩))
                go_roundw
                case measure => simp [intOf]; omega
                case rel => exact ⟨j + 1, came, dropped, h', y, rfl, rfl, by first | rfl | simp, by omega, by omega, HQ.out, S⟩
            · have hod : u.kind % 2 = 1 := by omega
              by_cases hF : isF y u.id
              · obtain ⟨q1, q2, q3⟩ := isF_lt hF
                obtain ⟨m, hm, hma, hmr, hml⟩ := Q.all u.id.toNat (by have := Q.len; omega)
                have hfd : fdI y u.id := ((isF_iff y u.id).1 hF).1
                have hft : ftI y u.id = cpAt y.l u.id.toNat := by unfold ftI; rw [if_pos hfd]
                rw [hft, q3, hma, decide_eq_true hfd] at HFT
                have HRW := Lib.hid (fun i (hi : i ∈ fly y.l) => show (cpAt y.l i).raw.length ≤ 1000000 from by
                  obtain ⟨_, _, _, _, h5⟩ := Q.all i (by have := (mem_fly.1 hi).1; have := Q.len; omega)
                  omega)
                have HTK := Lib.hid (fun W (S : DS w B h y W) => show Calls Try.prog 15 #[.pointer (some ⟨B, 0, none⟩), .int .i64 u.id, .int .i64 (100 + (j : Int))] W fun e w' => ∃ a cap, e = .returned (.tuple #[.slice a (L.getD m default).l.length cap, .int .i64 0]) ∧ BRow w' a (L.getD m default).l.length cap (L.getD m default).l ∧ (∃ h', DS w B h' (endX y u.id (100 + (j : Int)) 1) w') ∧ Kept (blks B h) W w' from by
                  have := ds_takeH S hyl u.id (100 + (j : Int)) hid HRW.out
                  rw [show takL y u.id (100 + (j : Int)) = (L.getD m default).l from by unfold takL; rw [Q.which hlj2, if_pos hF, if_pos rfl, hmr], Q.which hlj2, if_pos hF] at this
                  exact this)
                have HQ := Lib.hid (Q.came hlj2 hF)
                have HF2 := Lib.hid (fun (h : Hm) W (S : DS w B h (endX y u.id (100 + (j : Int)) 1) W) => show Calls Try.prog 13 #[.pointer (some ⟨B, 0, none⟩), .int .i64 u.id] W fun e w' => e = .returned (.tuple #[.agg #[.int .i64 (cpAt y.l u.id.toNat).f, .int .i64 (m : Nat), .int .i64 (100 + (j : Int)), .int .i64 1], .bool true]) ∧ DS w B h (endX y u.id (100 + (j : Int)) 1) w' from by
                  obtain ⟨x1, x2, x3, x4, x5⟩ := Q.ended hlj2 hF 1 (by decide)
                  have hfd2 : fdI (endX y u.id (100 + (j : Int)) 1) u.id := ⟨hfd.1, by rw [x1, x2]; have := hfd.2; have := Q.len; omega⟩
                  have hft2 : ftI (endX y u.id (100 + (j : Int)) 1) u.id = endC (cpAt y.l u.id.toNat) (100 + (j : Int)) 1 := by unfold ftI; rw [if_pos hfd2, x1]; unfold endL; rw [cpAt_set q1, if_pos rfl]
                  have := ds_fate S (by rw [x1, x2]; have := Q.n60; omega) u.id
                  rw [hft2, decide_eq_true hfd2] at this
                  unfold endC ftV at this
                  dsimp only at this
                  rw [hma] at this
                  exact this)
                have hmM : m < ln ∧ m < 60 := by have := hM.out; omega
                obtain ⟨hm1, hm2⟩ := hmM
                obtain ⟨b, off, rfl, hcl⟩ := HLC.out (by omega)
                obtain ⟨d0, hsl⟩ := hcl m hm1
                clear hcl
                have hll := hsl.len
                have HD := Lib.hid (fun W (hb : Below w.heap.size w W) => show W.cell? ⟨b, off + m, none⟩ = some (.slice (L.getD m default).a (L.getD m default).n (L.getD m default).c) from (hb.cell (World.block_lt_of_cell? w _ d0)).trans d0)
                have HSM := Lib.hid (fun W (hb : Below w.heap.size w W) a' cap' (hr : BRow W a' (L.getD m default).n cap' (L.getD m default).l) => oc.same_true a' (L.getD m default).a (L.getD m default).n cap' (L.getD m default).c (L.getD m default).l W (SlA.of_r hr) (hsl.later hb))
                unfold oc.RetQ at HSM
                rw [hll] at HTK
                clear hsl d0 hll
                generalize cpAt y.l u.id.toNat = ft at *
                generalize endX y u.id (100 + (j : Int)) 1 = y2 at *
                generalize L.getD m default = v at *
                clear S Q hF hfd hft q1 q2 q3 hma hmr hml HRW
                go_wp2_with (first
                  | (go_at_call 13; first
                    | ((with_reducible refine HFT.out.mono ?_); clear HFT; rintro e w3 ⟨rfl, S⟩; have hnb : w3.heap.size ∉ blks B h := fun e => absurd (S.d.lt _ e) (Nat.lt_irrefl _); have hbx := heap_alloc_new w3 (ftO ft.f m ft.e 0); replace S := S.later (bal (w := w3) (ftO ft.f m ft.e 0)); obtain ⟨c0, c1⟩ := HCC.out _ S.below)
                    | ((with_reducible refine (HF2.out h' _ S).mono ?_); rintro e w6 ⟨rfl, S⟩; replace S := S.later (bal (w := w6) (ftO ft.f m (100 + (j : Int)) 1))))
                  | (go_at_call 15; go_must (with_reducible refine (HTK.out _ S).mono ?_); clear S; rintro e w4 ⟨a', cap', rfl, hr4, ⟨h', S⟩, hk4⟩; have hbx4 := hk4.heap hnb hbx; obtain ⟨g0, g1, g2, g3⟩ := ft_cs hbx4; have d0 := HD.out _ S.below)
                  | (go_at_call 16; go_must (with_reducible refine (HSM.out _ S.below a' cap' hr4).mono ?_); rintro e w5 ⟨rfl, q5, rfl⟩; replace S := S.later (W' := w4.drewN q5) ⟨rfl, rfl, rfl, Nat.le_refl _, fun _ _ => rfl⟩))
                go_roundw
                case measure => simp [intOf]; omega
                case rel => exact ⟨j + 1, came + 1, dropped, _, y2, by first | rfl | simp, rfl, by first | rfl | simp, by omega, by omega, HQ.out, S⟩
              · by_cases hfd : fdI y u.id
                · have hk0 : ¬ (ftI y u.id).k = 0 := fun e => hF ((isF_iff y u.id).2 ⟨hfd, e⟩)
                  have hk1 : decide ((ftI y u.id).k = 0) = false := by simpa using hk0
                  rw [decide_eq_true hfd] at HFT
                  have HTK := Lib.hid (fun W (S : DS w B h y W) => show Calls Try.prog 15 #[.pointer (some ⟨B, 0, none⟩), .int .i64 u.id, .int .i64 (100 + (j : Int))] W fun e w' => ∃ a cap, e = .returned (.tuple #[.slice a 0 cap, .int .i64 10]) ∧ (∃ h', DS w B h' y w') ∧ Kept (blks B h) W w' from by
                    have := ds_takeH S hyl u.id (100 + (j : Int)) hid (fun i hi => by
                      obtain ⟨_, _, _, _, h5⟩ := Q.all i (by have := (mem_fly.1 hi).1; have := Q.len; omega)
                      omega)
                    rw [(Q.none hlj2 hF 1).2.2, (Q.none hlj2 hF 1).2.1, (Q.none hlj2 hF 1).1] at this
                    exact this.mono fun e w' ⟨a, cap, r1, r2, r3, r4⟩ => ⟨a, cap, r1, r3, r4⟩)
                  have HQ := Lib.hid Q.next
                  generalize ftI y u.id = ft at *
                  clear S Q hF hfd
                  go_wp2_with (first
                    | (go_at_call 13; go_must (with_reducible refine HFT.out.mono ?_); rintro e w3 ⟨rfl, S⟩; have hnb : w3.heap.size ∉ blks B h := fun e => absurd (S.d.lt _ e) (Nat.lt_irrefl _); have hbx := heap_alloc_new w3 (ftO ft.f ft.a ft.e ft.k); replace S := S.later (bal (w := w3) (ftO ft.f ft.a ft.e ft.k)); obtain ⟨c0, c1⟩ := HCC.out _ S.below)
                    | (go_at_call 15; go_must (with_reducible refine (HTK.out _ S).mono ?_); clear S; rintro e w4 ⟨a', cap', rfl, ⟨h', S⟩, hk4⟩; have hbx4 := hk4.heap hnb hbx; obtain ⟨g0, g1, g2, g3⟩ := ft_cs hbx4))
                  go_roundw
                  case measure => simp [intOf]; omega
                  case rel => exact ⟨j + 1, came, dropped, h', y, rfl, rfl, by first | rfl | simp, by omega, by omega, HQ.out, S⟩
                · rw [decide_eq_false hfd] at HFT
                  have HTK := Lib.hid (fun W (S : DS w B h y W) => show Calls Try.prog 15 #[.pointer (some ⟨B, 0, none⟩), .int .i64 u.id, .int .i64 (100 + (j : Int))] W fun e w' => ∃ a cap, e = .returned (.tuple #[.slice a 0 cap, .int .i64 10]) ∧ (∃ h', DS w B h' y w') ∧ Kept (blks B h) W w' from by
                    have := ds_takeH S hyl u.id (100 + (j : Int)) hid (fun i hi => by
                      obtain ⟨_, _, _, _, h5⟩ := Q.all i (by have := (mem_fly.1 hi).1; have := Q.len; omega)
                      omega)
                    rw [(Q.none hlj2 hF 1).2.2, (Q.none hlj2 hF 1).2.1, (Q.none hlj2 hF 1).1] at this
                    exact this.mono fun e w' ⟨a, cap, r1, r2, r3, r4⟩ => ⟨a, cap, r1, r3, r4⟩)
                  have HQ := Lib.hid Q.next
                  generalize ftI y u.id = ft at *
                  clear S Q hF hfd
                  go_wp2_with (first
                    | (go_at_call 13; go_must (with_reducible refine HFT.out.mono ?_); rintro e w3 ⟨rfl, S⟩; have hnb : w3.heap.size ∉ blks B h := fun e => absurd (S.d.lt _ e) (Nat.lt_irrefl _); have hbx := heap_alloc_new w3 (ftO ft.f ft.a ft.e ft.k); replace S := S.later (bal (w := w3) (ftO ft.f ft.a ft.e ft.k)); obtain ⟨c0, c1⟩ := HCC.out _ S.below)
                    | (go_at_call 15; go_must (with_reducible refine (HTK.out _ S).mono ?_); clear S; rintro e w4 ⟨a', cap', rfl, ⟨h', S⟩, hk4⟩; have hbx4 := hk4.heap hnb hbx; obtain ⟨g0, g1, g2, g3⟩ := ft_cs hbx4))
                  go_roundw
                  case measure => simp [intOf]; omega
                  case rel => exact ⟨j + 1, came, dropped, h', y, rfl, rfl, by first | rfl | simp, by omega, by omega, HQ.out, S⟩
          · have hcn := Q.cnt
            have hn6 := Q.n60
            obtain ⟨z, hz⟩ : ∃ z : Int, z = (((fly y.l).length : Nat) : Int) := ⟨_, rfl⟩
            obtain ⟨z1, hz1⟩ : ∃ z1 : Int, z1 = z + came := ⟨_, rfl⟩
            have hw1 : IntKind.i64.wrap (z + (came : Int)) = z1 := by rw [IntWalk.i64_in _ (by omega), hz1]
            have hw2 : IntKind.i64.wrap (z1 + (dropped : Int)) = (n : Int) := by rw [IntWalk.i64_in _ (by omega)]; omega
            have HL2 := Lib.hid (show Calls Try.prog 17 #[.pointer (some ⟨B, 0, none⟩)] wr fun e w' => e = .returned (.int .i64 z) ∧ DS w B h y w' from by
              rw [hz]
              exact HLN.out B h y _ S)
            have HT2 := Lib.hid (fun W (S : DS w B h y W) => HTO.out B h y n Q.len W S)
            clear hz hz1 hcn hn6 Q S hyl
            go_wp2_with (first
              | (go_at_call 17; go_must (with_reducible refine HL2.out.mono ?_); rintro e w3 ⟨rfl, S⟩)
              | (go_at_call 18; go_must (with_reducible refine (HT2.out _ S).mono ?_); clear S; rintro e w4 ⟨rfl, S⟩)
              | (go_at_call 7; go_must (with_reducible refine (known_b S.below).mono ?_); clear S; rintro e w5 ⟨rfl, hb9⟩))
            all_goals
              go_ret
              exact ⟨rfl, hb9⟩
end Go.Proofs.Ytahegkbdefhlpaa.dc
