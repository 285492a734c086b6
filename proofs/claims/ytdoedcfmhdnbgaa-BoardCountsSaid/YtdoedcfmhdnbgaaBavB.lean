/-
  Package avl: above, raising, balance.
-/
import Derived.Test.YtdoedcfmhdnbgaaBavW
namespace Go.Proofs.Ytdoedcfmhdnbgaa.bv
open Go.RowKit aid mem
attribute [local go_sem ↓] Go.wp_at_zero Go.wp_at_succ
set_option linter.unusedVariables false

/-- a node with its parts lies at block b -/
structure NdB (w : World) (b : Nat) (l : T) (k : Int) (v : Vt) (r : T) (pl pr : Option Addr) : Prop where
  here : w.heap[b]? = some (ndB l k v r pl pr)
  left : NdAt w pl l
  right : NdAt w pr r
theorem NdB.later {w w' : World} {b : Nat} {l r : T} {k : Int} {v : Vt} {pl pr : Option Addr} (h : NdB w b l k v r pl pr) (hb : Below w.heap.size w w') : NdB w' b l k v r pl pr :=
  ⟨(hb.block b (lt_of_block h.here)).trans h.here, h.left.later hb, h.right.later hb⟩
theorem NdB.at_ {w : World} {b : Nat} {l r : T} {k : Int} {v : Vt} {pl pr : Option Addr} (h : NdB w b l k v r pl pr) : NdAt w (some ⟨b, 0, none⟩) (.node l k v r) := ⟨b, pl, pr, rfl, h.here, h.left, h.right⟩
theorem NdB.cs {w : World} {b : Nat} {l r : T} {k : Int} {v : Vt} {pl pr : Option Addr} (h : NdB w b l k v r pl pr) : Cs w b k v pl pr (l.size + 1 + r.size) (1 + max l.ht r.ht) := cs_of h.here
theorem NdAt.drew {w : World} {p : Option Addr} {t : T} (h : NdAt w p t) : NdAt w.drew p t := h.later (Below.refl _ _).drew
theorem NdAt.drewN {w : World} {p : Option Addr} {t : T} (h : NdAt w p t) (n : Nat) : NdAt (w.drewN n) p t := NdAt.keepT (w := w) (w' := w.drewN n) (fun _ _ _ => rfl) h
theorem below_drewN (w : World) (n : Nat) : Below w.heap.size w (w.drewN n) := ⟨rfl, rfl, rfl, Nat.le_refl _, fun _ _ => rfl⟩
theorem tall_q {w : World} {p : Option Addr} {t : T} (h : NdAt w p t) (n : Nat) : Calls Try.prog 91 #[.pointer p] (w.drewN n) fun e w'' => e = .returned (.int .i64 (t.ht : Int)) ∧ ∃ m, w'' = w.drewN m :=
  (tall_any (h.drewN n)).mono fun _ _ h => ⟨h.1, n, h.2.symm⟩

set_option maxRecDepth 100000 in
set_option maxHeartbeats 1000000 in
theorem above_any {l r : T} {pl pr : Option Addr} {b : Nat} {k : Int} {v : Vt} {w : World} (c0 : w.cell? ⟨b, 0, none⟩ = some (.int .i64 k)) (c1 : (w.cell? ⟨b, 1, none⟩ = some (.int .i64 v.1) ∧ w.cell? ⟨b, 2, none⟩ = some (.int .i64 v.2))) (hl : NdAt w pl l) (hr : NdAt w pr r) (hs : l.size + r.size ≤ 1000000) :
    Calls Try.prog 94 #[.pointer (some ⟨b, 0, none⟩), .pointer pl, .pointer pr] w (RetT (.node l k v r) w) := by
  have HL := Lib.hid hl.drew
  have HR := Lib.hid hr.drew
  have HB := Lib.hid (Below.refl w.heap.size w).drew
  clear hl hr
  go_enter Try.func94, Try.ntmps94
  go_wp2
  go_region_held3 (fun w' => w'.cell? ⟨b, 0, none⟩ = some (.int .i64 k) ∧ (w'.cell? ⟨b, 1, none⟩ = some (.int .i64 v.1) ∧ w'.cell? ⟨b, 2, none⟩ = some (.int .i64 v.2))) (first | exact ⟨c0, c1⟩ | go_keep) (
    (go_at_call 86; (with_reducible refine (join_any k v HL.out HR.out hs).mono ?_); rintro e w2 ⟨p, rfl, hn, hb⟩; have g0 := (hb.cell (World.block_lt_of_cell? w _ c0)).trans c0; have g1 := (hb.cell (World.block_lt_of_cell? w _ c1.1)).trans c1.1; have g2 := (hb.cell (World.block_lt_of_cell? w _ c1.2)).trans c1.2))
  all_goals
    go_wp2
    go_ret
    exact ⟨p, rfl, hn, HB.out.trans hb⟩

/-- what lies while two parts are joined: a node with another one below it, a third one's key and value, a tree -/
structure StD (w0 w : World) (x y b : Nat) (o : T) (xk : Int) (xv : Vt) (i j : T) (yk : Int) (yv : Vt) (k : Int) (v : Vt) (r : T) (po pi pj pr : Option Addr) : Prop where
  xc : w.cell? ⟨x, 0, none⟩ = some (.int .i64 xk) ∧ (w.cell? ⟨x, 1, none⟩ = some (.int .i64 xv.1) ∧ w.cell? ⟨x, 2, none⟩ = some (.int .i64 xv.2))
  yc : w.cell? ⟨y, 0, none⟩ = some (.int .i64 yk) ∧ (w.cell? ⟨y, 1, none⟩ = some (.int .i64 yv.1) ∧ w.cell? ⟨y, 2, none⟩ = some (.int .i64 yv.2))
  bc : w.cell? ⟨b, 0, none⟩ = some (.int .i64 k) ∧ (w.cell? ⟨b, 1, none⟩ = some (.int .i64 v.1) ∧ w.cell? ⟨b, 2, none⟩ = some (.int .i64 v.2))
  x2 : w.cell? ⟨x, 3, none⟩ = some (.pointer po) ∨ w.cell? ⟨x, 4, none⟩ = some (.pointer po)
  ys : w.cell? ⟨y, 3, none⟩ = some (.pointer pi) ∧ w.cell? ⟨y, 4, none⟩ = some (.pointer pj)
  no : NdAt w po o
  ni : NdAt w pi i
  nj : NdAt w pj j
  nr : NdAt w pr r
  below : Below w0.heap.size w0 w
theorem ck {w w' : World} {p : Addr} {v : Value} (hb : Below w.heap.size w w') (h : w.cell? p = some v) : w'.cell? p = some v := (hb.cell (World.block_lt_of_cell? w _ h)).trans h
theorem ck2 {w w' : World} {p q : Addr} {u v : Value} (hb : Below w.heap.size w w') (h : w.cell? p = some u ∧ w.cell? q = some v) : w'.cell? p = some u ∧ w'.cell? q = some v := ⟨ck hb h.1, ck hb h.2⟩
theorem StD.later {w0 w w' : World} {x y b : Nat} {o i j r : T} {xk yk k : Int} {xv yv v : Vt} {po pi pj pr : Option Addr} (h : StD w0 w x y b o xk xv i j yk yv k v r po pi pj pr) (hb : Below w.heap.size w w') : StD w0 w' x y b o xk xv i j yk yv k v r po pi pj pr :=
  ⟨⟨ck hb h.xc.1, ck2 hb h.xc.2⟩, ⟨ck hb h.yc.1, ck2 hb h.yc.2⟩, ⟨ck hb h.bc.1, ck2 hb h.bc.2⟩, h.x2.imp (ck hb) (ck hb), ⟨ck hb h.ys.1, ck hb h.ys.2⟩, h.no.later hb, h.ni.later hb, h.nj.later hb, h.nr.later hb, h.below.trans (hb.mono h.below.size)⟩

/-- at a node's block: its cells -/
theorem NdB.c (w : World) {b : Nat} {l r : T} {k : Int} {v : Vt} {pl pr : Option Addr} (h : NdB w b l k v r pl pr) : (w.cell? ⟨b, 0, none⟩ = some (.int .i64 k) ∧ (w.cell? ⟨b, 1, none⟩ = some (.int .i64 v.1) ∧ w.cell? ⟨b, 2, none⟩ = some (.int .i64 v.2))) ∧ w.cell? ⟨b, 3, none⟩ = some (.pointer pl) ∧ w.cell? ⟨b, 4, none⟩ = some (.pointer pr) :=
  ⟨⟨h.cs.c0, h.cs.c1⟩, h.cs.c2, h.cs.c3⟩

set_option maxRecDepth 100000 in
set_option maxHeartbeats 2000000 in
theorem raiseL_any {l r : T} {pl pr : Option Addr} {b : Nat} {k : Int} {v : Vt} {w : World} (c0 : w.cell? ⟨b, 0, none⟩ = some (.int .i64 k)) (c1 : (w.cell? ⟨b, 1, none⟩ = some (.int .i64 v.1) ∧ w.cell? ⟨b, 2, none⟩ = some (.int .i64 v.2))) (hl : NdAt w pl l) (hr : NdAt w pr r) (hn : l ≠ .nil) (hs : l.size + r.size ≤ 1000000) :
    Calls Try.prog 92 #[.pointer (some ⟨b, 0, none⟩), .pointer pl, .pointer pr] w (RetT (T.raiseL l k v r) w) := by
  cases l with
  | nil => exact absurd rfl hn
  | node ll lk lv lr =>
    obtain ⟨bl, pll, plr, rfl, hb, hll, hlr⟩ := hl
    have N : NdB w bl ll lk lv lr pll plr := ⟨hb, hll, hlr⟩
    obtain ⟨d01, d2, d3⟩ := N.c
    by_cases hc : lr.ht > ll.ht
    · cases lr with
      | nil => simp [T.ht] at hc
      | node a mk mv c =>
        obtain ⟨bm, pa, pc, rfl, hm, ha, hcc⟩ := hlr
        have M : NdB w bm a mk mv c pa pc := ⟨hm, ha, hcc⟩
        obtain ⟨e01, e2, e3⟩ := M.c
        have S0 : StD w w bl bm b ll lk lv a c mk mv k v r pll pa pc pr := ⟨d01, e01, ⟨c0, c1⟩, .inl d2, ⟨e2, e3⟩, hll, ha, hcc, hr, Below.refl _ _⟩
        have HS : Hid (∀ n, StD w (w.drewN n) bl bm b ll lk lv a c mk mv k v r pll pa pc pr ∧ (w.drewN n).cell? ⟨bl, 3, none⟩ = some (.pointer pll)) := Lib.hid (fun n => ⟨S0.later (below_drewN w n), d2⟩)
        have HM : Hid (NdAt w (some ⟨bm, 0, none⟩) (.node a mk mv c)) := Lib.hid M.at_
        have HLL := Lib.hid hll
        have hs1 : ll.size + a.size ≤ 1000000 := by simp only [T.size] at hs; omega
        have hs2 : c.size + r.size ≤ 1000000 := by simp only [T.size] at hs; omega
        have hs3 : (T.node ll lk lv a).size + (T.node c k v r).size ≤ 1000000 := by simp only [T.size] at hs ⊢; omega
        have HT : Hid (T.raiseL (.node ll lk lv (.node a mk mv c)) k v r = .node (.node ll lk lv a) mk mv (.node c k v r)) := Lib.hid (by simp only [T.raiseL, if_pos hc])
        generalize T.raiseL (.node ll lk lv (.node a mk mv c)) k v r = t at *
        clear hll ha hcc hr hn N M hb hm S0 hs e01 d01
        go_enter Try.func92, Try.ntmps92
        go_wp2
        go_quiet ((go_at_call 91; with_reducible (first | exact tall_q HM.out _ | exact tall_q HLL.out _)))
        go_wp2
        obtain ⟨S1, f2⟩ := HS.out nq
        have f3 := S1.ys.1
        have f4 := S1.ys.2
        generalize w.drewN nq = W at *
        clear HS HM HLL d2 d3 e2 e3 c0 c1
        have S2 := S1.later (Below.refl W.heap.size W).drew
        have G : W.drew.cell? ⟨bl, 3, none⟩ = some (.pointer pll) := f2
        clear S1
        go_region_held3 (fun w' => w'.cell? ⟨bl, 3, none⟩ = some (.pointer pll) ∧ w'.cell? ⟨bm, 3, none⟩ = some (.pointer pa) ∧ w'.cell? ⟨bm, 4, none⟩ = some (.pointer pc)) (with_reducible first | exact ⟨G, S2.ys⟩ | exact ⟨GA, SA.ys⟩ | exact ⟨GB, SB.ys⟩ | exact ⟨GC, SC.ys⟩ | go_keep) (first
          | (go_at_call 94; (with_reducible refine (above_any S2.xc.1 S2.xc.2 S2.no S2.ni hs1).mono ?_); rintro e w2 ⟨p1, rfl, hp1, hb⟩; have GA := ck hb G; have SA := S2.later hb; clear S2 G hb)
          | (go_at_call 94; (with_reducible refine (above_any S2.bc.1 S2.bc.2 S2.nj S2.nr hs2).mono ?_); rintro e w2 ⟨p2, rfl, hp2, hb⟩; have GB := ck hb G; have SB := S2.later hb; clear S2 G hb)
          | (go_at_call 94; (with_reducible refine (above_any SA.bc.1 SA.bc.2 SA.nj SA.nr hs2).mono ?_); rintro e w3 ⟨p2, rfl, hp2, hb⟩; have GC := ck hb GA; have SC := SA.later hb; replace hp1 := hp1.later hb; clear SA GA hb)
          | (go_at_call 94; (with_reducible refine (above_any SB.xc.1 SB.xc.2 SB.no SB.ni hs1).mono ?_); rintro e w3 ⟨p1, rfl, hp1, hb⟩; have GC := ck hb GB; have SC := SB.later hb; replace hp2 := hp2.later hb; clear SB GB hb)
          | (go_at_call 94; (with_reducible refine (above_any SC.yc.1 SC.yc.2 hp1 hp2 hs3).mono ?_); rintro e w4 ⟨p3, rfl, hp3, hb⟩; have GA := ck hb GC; have SA := SC.later hb; clear SC GC hb))
        all_goals
          go_wp2
          go_ret
          exact ⟨p3, rfl, by rw [HT.out]; exact hp3, SA.below⟩
    · have S0 : StD w w bl bl b ll lk lv ll lr lk lv k v r pll pll plr pr := ⟨d01, d01, ⟨c0, c1⟩, .inl d2, ⟨d2, d3⟩, hll, hll, hlr, hr, Below.refl _ _⟩
      have HS : Hid (∀ n, StD w (w.drewN n) bl bl b ll lk lv ll lr lk lv k v r pll pll plr pr) := Lib.hid (fun n => S0.later (below_drewN w n))
      have HM := Lib.hid hlr
      have HLL := Lib.hid hll
      have hs1 : lr.size + r.size ≤ 1000000 := by simp only [T.size] at hs; omega
      have hs2 : ll.size + (T.node lr k v r).size ≤ 1000000 := by simp only [T.size] at hs ⊢; omega
      have HT : Hid (T.raiseL (.node ll lk lv lr) k v r = .node ll lk lv (.node lr k v r)) := Lib.hid (by simp only [T.raiseL, if_neg hc])
      generalize T.raiseL (.node ll lk lv lr) k v r = t at *
      clear hll hlr hr hn N hb S0 hs d01
      go_enter Try.func92, Try.ntmps92
      go_wp2
      go_quiet ((go_at_call 91; with_reducible (first | exact tall_q HM.out _ | exact tall_q HLL.out _)))
      go_wp2
      have S1 := HS.out nq
      have f3 := S1.ys.1
      have f4 := S1.ys.2
      generalize w.drewN nq = W at *
      clear HS HM HLL d2 d3 c0 c1
      have S2 := S1.later (Below.refl W.heap.size W).drew
      clear S1
      go_region_held3 (fun w' => w'.cell? ⟨bl, 3, none⟩ = some (.pointer pll) ∧ w'.cell? ⟨bl, 4, none⟩ = some (.pointer plr)) (with_reducible first | exact S2.ys | exact SA.ys | exact SB.ys | go_keep) (first
        | (go_at_call 94; (with_reducible refine (above_any S2.bc.1 S2.bc.2 S2.nj S2.nr hs1).mono ?_); rintro e w2 ⟨p1, rfl, hp1, hb⟩; have SA := S2.later hb; clear S2 hb)
        | (go_at_call 94; (with_reducible refine (above_any SA.xc.1 SA.xc.2 SA.no hp1 hs2).mono ?_); rintro e w4 ⟨p3, rfl, hp3, hb⟩; have SB := SA.later hb; clear hp1 hb))
      all_goals
        go_wp2
        go_ret
        exact ⟨p3, rfl, by rw [HT.out]; exact hp3, SB.below⟩

set_option maxRecDepth 100000 in
set_option maxHeartbeats 2000000 in
theorem raiseR_any {l r : T} {pl pr : Option Addr} {b : Nat} {k : Int} {v : Vt} {w : World} (c0 : w.cell? ⟨b, 0, none⟩ = some (.int .i64 k)) (c1 : (w.cell? ⟨b, 1, none⟩ = some (.int .i64 v.1) ∧ w.cell? ⟨b, 2, none⟩ = some (.int .i64 v.2))) (hl : NdAt w pl l) (hr : NdAt w pr r) (hn : r ≠ .nil) (hs : l.size + r.size ≤ 1000000) :
    Calls Try.prog 93 #[.pointer (some ⟨b, 0, none⟩), .pointer pl, .pointer pr] w (RetT (T.raiseR l k v r) w) := by
  cases r with
  | nil => exact absurd rfl hn
  | node rl rk rv rr =>
    obtain ⟨br, prl, prr, rfl, hb, hrl, hrr⟩ := hr
    have N : NdB w br rl rk rv rr prl prr := ⟨hb, hrl, hrr⟩
    obtain ⟨d01, d2, d3⟩ := N.c
    by_cases hc : rl.ht > rr.ht
    · cases rl with
      | nil => simp [T.ht] at hc
      | node a mk mv c =>
        obtain ⟨bm, pa, pc, rfl, hm, ha, hcc⟩ := hrl
        have M : NdB w bm a mk mv c pa pc := ⟨hm, ha, hcc⟩
        obtain ⟨e01, e2, e3⟩ := M.c
        have S0 : StD w w br bm b rr rk rv a c mk mv k v l prr pa pc pl := ⟨d01, e01, ⟨c0, c1⟩, .inr d3, ⟨e2, e3⟩, hrr, ha, hcc, hl, Below.refl _ _⟩
        have HS : Hid (∀ n, StD w (w.drewN n) br bm b rr rk rv a c mk mv k v l prr pa pc pl ∧ (w.drewN n).cell? ⟨br, 4, none⟩ = some (.pointer prr)) := Lib.hid (fun n => ⟨S0.later (below_drewN w n), d3⟩)
        have HM : Hid (NdAt w (some ⟨bm, 0, none⟩) (.node a mk mv c)) := Lib.hid M.at_
        have HLL := Lib.hid hrr
        have hs1 : l.size + a.size ≤ 1000000 := by simp only [T.size] at hs; omega
        have hs2 : c.size + rr.size ≤ 1000000 := by simp only [T.size] at hs; omega
        have hs3 : (T.node l k v a).size + (T.node c rk rv rr).size ≤ 1000000 := by simp only [T.size] at hs ⊢; omega
        have HT : Hid (T.raiseR l k v (.node (.node a mk mv c) rk rv rr) = .node (.node l k v a) mk mv (.node c rk rv rr)) := Lib.hid (by simp only [T.raiseR, if_pos hc])
        generalize T.raiseR l k v (.node (.node a mk mv c) rk rv rr) = t at *
        clear hrr ha hcc hl hn N M hb hm S0 hs e01 d01
        go_enter Try.func93, Try.ntmps93
        go_wp2
        go_quiet ((go_at_call 91; with_reducible (first | exact tall_q HM.out _ | exact tall_q HLL.out _)))
        go_wp2
        obtain ⟨S1, f2⟩ := HS.out nq
        have f3 := S1.ys.1
        have f4 := S1.ys.2
        generalize w.drewN nq = W at *
        clear HS HM HLL d2 d3 e2 e3 c0 c1
        have S2 := S1.later (Below.refl W.heap.size W).drew
        have G : W.drew.cell? ⟨br, 4, none⟩ = some (.pointer prr) := f2
        clear S1
        go_region_held3 (fun w' => w'.cell? ⟨br, 4, none⟩ = some (.pointer prr) ∧ w'.cell? ⟨bm, 3, none⟩ = some (.pointer pa) ∧ w'.cell? ⟨bm, 4, none⟩ = some (.pointer pc)) (with_reducible first | exact ⟨G, S2.ys⟩ | exact ⟨GA, SA.ys⟩ | exact ⟨GB, SB.ys⟩ | exact ⟨GC, SC.ys⟩ | go_keep) (first
          | (go_at_call 94; (with_reducible refine (above_any S2.bc.1 S2.bc.2 S2.nr S2.ni hs1).mono ?_); rintro e w2 ⟨p1, rfl, hp1, hb⟩; have GA := ck hb G; have SA := S2.later hb; clear S2 G hb)
          | (go_at_call 94; (with_reducible refine (above_any S2.xc.1 S2.xc.2 S2.nj S2.no hs2).mono ?_); rintro e w2 ⟨p2, rfl, hp2, hb⟩; have GB := ck hb G; have SB := S2.later hb; clear S2 G hb)
          | (go_at_call 94; (with_reducible refine (above_any SA.xc.1 SA.xc.2 SA.nj SA.no hs2).mono ?_); rintro e w3 ⟨p2, rfl, hp2, hb⟩; have GC := ck hb GA; have SC := SA.later hb; replace hp1 := hp1.later hb; clear SA GA hb)
          | (go_at_call 94; (with_reducible refine (above_any SB.bc.1 SB.bc.2 SB.nr SB.ni hs1).mono ?_); rintro e w3 ⟨p1, rfl, hp1, hb⟩; have GC := ck hb GB; have SC := SB.later hb; replace hp2 := hp2.later hb; clear SB GB hb)
          | (go_at_call 94; (with_reducible refine (above_any SC.yc.1 SC.yc.2 hp1 hp2 hs3).mono ?_); rintro e w4 ⟨p3, rfl, hp3, hb⟩; have GA := ck hb GC; have SA := SC.later hb; clear SC GC hb))
        all_goals
          go_wp2
          go_ret
          exact ⟨p3, rfl, by rw [HT.out]; exact hp3, SA.below⟩
    · have S0 : StD w w br br b rr rk rv rl rr rk rv k v l prr prl prr pl := ⟨d01, d01, ⟨c0, c1⟩, .inr d3, ⟨d2, d3⟩, hrr, hrl, hrr, hl, Below.refl _ _⟩
      have HS : Hid (∀ n, StD w (w.drewN n) br br b rr rk rv rl rr rk rv k v l prr prl prr pl) := Lib.hid (fun n => S0.later (below_drewN w n))
      have HM := Lib.hid hrl
      have HLL := Lib.hid hrr
      have hs1 : l.size + rl.size ≤ 1000000 := by simp only [T.size] at hs; omega
      have hs2 : (T.node l k v rl).size + rr.size ≤ 1000000 := by simp only [T.size] at hs ⊢; omega
      have HT : Hid (T.raiseR l k v (.node rl rk rv rr) = .node (.node l k v rl) rk rv rr) := Lib.hid (by simp only [T.raiseR, if_neg hc])
      generalize T.raiseR l k v (.node rl rk rv rr) = t at *
      clear hrl hrr hl hn N hb S0 hs d01
      go_enter Try.func93, Try.ntmps93
      go_wp2
      go_quiet ((go_at_call 91; with_reducible (first | exact tall_q HM.out _ | exact tall_q HLL.out _)))
      go_wp2
      have S1 := HS.out nq
      have f3 := S1.ys.1
      have f4 := S1.ys.2
      generalize w.drewN nq = W at *
      clear HS HM HLL d2 d3 c0 c1
      have S2 := S1.later (Below.refl W.heap.size W).drew
      clear S1
      go_region_held3 (fun w' => w'.cell? ⟨br, 3, none⟩ = some (.pointer prl) ∧ w'.cell? ⟨br, 4, none⟩ = some (.pointer prr)) (with_reducible first | exact S2.ys | exact SA.ys | exact SB.ys | go_keep) (first
        | (go_at_call 94; (with_reducible refine (above_any S2.bc.1 S2.bc.2 S2.nr S2.ni hs1).mono ?_); rintro e w2 ⟨p1, rfl, hp1, hb⟩; have SA := S2.later hb; clear S2 hb)
        | (go_at_call 94; (with_reducible refine (above_any SA.xc.1 SA.xc.2 hp1 SA.no hs2).mono ?_); rintro e w4 ⟨p3, rfl, hp3, hb⟩; have SB := SA.later hb; clear hp1 hb))
      all_goals
        go_wp2
        go_ret
        exact ⟨p3, rfl, by rw [HT.out]; exact hp3, SB.below⟩

set_option maxRecDepth 100000 in
set_option maxHeartbeats 2000000 in
theorem balance_any {l r : T} {pl pr : Option Addr} {b : Nat} {k : Int} {v : Vt} {w : World} (c0 : w.cell? ⟨b, 0, none⟩ = some (.int .i64 k)) (c1 : (w.cell? ⟨b, 1, none⟩ = some (.int .i64 v.1) ∧ w.cell? ⟨b, 2, none⟩ = some (.int .i64 v.2))) (hl : NdAt w pl l) (hr : NdAt w pr r) (hs : l.size + r.size ≤ 1000000) :
    Calls Try.prog 85 #[.pointer (some ⟨b, 0, none⟩), .pointer pl, .pointer pr] w (RetT (T.bal l k v r) w) := by
  have HL := Lib.hid hl
  have HR := Lib.hid hr
  have a1 := l.ht_le
  have a2 := r.ht_le
  by_cases h1 : l.ht > r.ht + 1
  · have HC := Lib.hid (raiseL_any c0 c1 hl hr (fun e => by subst e; simp [T.ht] at h1) hs)
    have HT : Hid (T.bal l k v r = T.raiseL l k v r) := Lib.hid (by unfold T.bal; rw [if_pos h1])
    generalize T.bal l k v r = t at *
    clear hl hr c0 c1
    go_enter Try.func85, Try.ntmps85
    go_wp2_with (first
      | (go_at_call 91; first | ((with_reducible refine (tall_any HL.out).mono ?_); rintro e w' ⟨rfl, rfl⟩) | ((with_reducible refine (tall_any HR.out).mono ?_); rintro e w' ⟨rfl, rfl⟩))
      | (go_at_call 92; (with_reducible refine HC.out.mono ?_); rintro e w' ⟨p, rfl, hp, hb⟩))
    go_ret
    exact ⟨p, rfl, by rw [HT.out]; exact hp, hb⟩
  · by_cases h2 : r.ht > l.ht + 1
    · have HC := Lib.hid (raiseR_any c0 c1 hl hr (fun e => by subst e; simp [T.ht] at h2) hs)
      have HT : Hid (T.bal l k v r = T.raiseR l k v r) := Lib.hid (by unfold T.bal; rw [if_neg h1, if_pos h2])
      generalize T.bal l k v r = t at *
      clear hl hr c0 c1
      go_enter Try.func85, Try.ntmps85
      go_wp2_with (first
        | (go_at_call 91; first | ((with_reducible refine (tall_any HL.out).mono ?_); rintro e w' ⟨rfl, rfl⟩) | ((with_reducible refine (tall_any HR.out).mono ?_); rintro e w' ⟨rfl, rfl⟩))
        | (go_at_call 93; (with_reducible refine HC.out.mono ?_); rintro e w' ⟨p, rfl, hp, hb⟩))
      go_ret
      exact ⟨p, rfl, by rw [HT.out]; exact hp, hb⟩
    · have HC := Lib.hid (above_any c0 c1 hl hr hs)
      have HT : Hid (T.bal l k v r = T.node l k v r) := Lib.hid (by unfold T.bal; rw [if_neg h1, if_neg h2])
      generalize T.bal l k v r = t at *
      clear hl hr c0 c1
      go_enter Try.func85, Try.ntmps85
      go_wp2_with (first
        | (go_at_call 91; first | ((with_reducible refine (tall_any HL.out).mono ?_); rintro e w' ⟨rfl, rfl⟩) | ((with_reducible refine (tall_any HR.out).mono ?_); rintro e w' ⟨rfl, rfl⟩))
        | (go_at_call 94; (with_reducible refine HC.out.mono ?_); rintro e w' ⟨p, rfl, hp, hb⟩))
      go_ret
      exact ⟨p, rfl, by rw [HT.out]; exact hp, hb⟩
end Go.Proofs.Ytdoedcfmhdnbgaa.bv
