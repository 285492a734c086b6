/-
  A round of layer 12's law, as declarations of their own.
-/
import Derived.Test.YtgonfdedapnlnaaLowF
import Derived.Deep.CutRange
namespace Go.Proofs.Ytgonfdedapnlnaa.lo
open Go.RowKit aid mem
attribute [local go_sem ↓] Go.wp_at_zero Go.wp_at_succ
set_option linter.unusedVariables false

theorem info_mk : (Try.prog.info? 29).map (fun i => (i.zero, i.size, i.bytes)) = some (some (.agg #[.int .i64 0, .int .i64 0]), 2, 16) := by kernel_rfl
theorem mk_src (X : World) (s : Mk) : Src Try.prog 2 22 (.slice (some ⟨X.heap.size, 0, none⟩) 1 1) 1 [.int .i64 s.1, .int .i64 s.2] (X.alloc (.cells #[.int .i64 s.1, .int .i64 s.2] 29)) := by
  refine Src.ofSlice _ Try.underlying22 ⟨X.heap.size, 0, none⟩ 1 1 _ rfl ?_ (by simp [Value.oneCell'])
  intro j u hu
  have := cell_of_row (X.alloc (.cells #[.int .i64 s.1, .int .i64 s.2] 29)) X.heap.size j _ _ (0, 0) (heap_alloc_new X _)
  have hadd : (⟨X.heap.size, 0, none⟩ : Addr).add j = ⟨X.heap.size, 0 + j, none⟩ := by unfold Addr.add; split <;> simp_all
  rw [hadd, Nat.zero_add, this, ← hu]
  simp
/-- what lies between two rounds, and within one -/
structure TS (w0 : World) (B : Nat) (win last : Int) (had k : List Mk) (m : Nat) (a : Option Addr) (n cap : Nat) (w : World) : Prop where
  ls : LS w0 B win last had k m w
  row : SlR w 29 2 a n cap (mkCells had)
  own : ∀ b ∈ blk a cap, w0.heap.size ≤ b
  nm : n ≤ m
def CL (w : World) (C n0 : Nat) : Prop := ∃ win last a cap, LwAt w C win last a n0 cap
theorem CL.later {w w' : World} {C n0 : Nat} (h : CL w C n0) (hb : Below w.heap.size w w') : CL w' C n0 := by
  obtain ⟨x, y, z, u, h⟩ := h
  exact ⟨x, y, z, u, h.later hb⟩
section
variable {w0 : World} {B : Nat} {win last : Int} {had k : List Mk} {m : Nat} {a : Option Addr} {n cap : Nat} {w : World}
theorem TS.later {w' : World} (h : TS w0 B win last had k m a n cap w) (hb : Below w.heap.size w w') : TS w0 B win last had k m a n cap w' := ⟨h.ls.later hb, h.row.later hb, h.own, h.nm⟩
theorem TS.up (h : TS w0 B win last had k m a n cap w) : TS w0 B win last had k (m + 1) a n cap w :=
  ⟨⟨h.ls.st, h.ls.hk, h.ls.win, by have := h.ls.kl; omega, h.ls.below, h.ls.le⟩, h.row, h.own, by have := h.nm; omega⟩
theorem TS.ma (h : TS w0 B win last had k m a n cap w) : Ma w a n cap had := by
  have hl : had.length = n := by have := h.row.len; rw [mk_len] at this; omega
  refine ⟨hl, h.row.le, h.row.most, fun h0 => ?_⟩
  obtain ⟨g, off, rfl, hc⟩ := h.row.cell (by have := h.row.le; omega)
  refine ⟨g, off, rfl, fun i hi => ?_⟩
  obtain ⟨e0, e1⟩ := mk_get had i (by omega)
  exact ⟨(hc (i * 2) (by omega)).trans e0, by rw [Nat.add_assoc]; exact (hc (i * 2 + 1) (by omega)).trans e1⟩
theorem slr_keepT {w w' : World} {B : Nat} {a : Option Addr} {n cap : Nat} {xs : List Value} (h : SlR w 29 2 a n cap xs) (hB : ∃ win last a n cap, LwAt w B win last a n cap) (hk : KeepT B w w') : SlR w' 29 2 a n cap xs :=
  ⟨h.len, h.le, h.most, fun h0 => by
    obtain ⟨g, off, cur, rfl, hg, h1, h2⟩ := h.rest h0
    refine ⟨g, off, cur, rfl, hk g cur _ (by decide) (fun e => ?_) hg, h1, h2⟩
    subst e
    obtain ⟨_, _, _, _, _, hB⟩ := hB
    unfold LwAt at hB
    rw [hB] at hg
    simp at hg⟩
theorem cl_keepT {w w' : World} {B C n0 : Nat} (h : CL w C n0) (hne : C ≠ B) (hk : KeepT B w w') : CL w' C n0 := by
  obtain ⟨x, y, z, u, h⟩ := h
  exact ⟨x, y, z, u, hk C _ _ (by decide) hne h⟩
theorem mk_ne {w : World} {X : Nat} {cur : Array Value} {t : TypeId} {a : Option Addr} {n cap : Nat} {xs : List Value} (h : SlR w 29 2 a n cap xs) (ht : t ≠ 29) (hx : w.heap[X]? = some (.cells cur t (0, 0))) : X ∉ blk a cap := by
  intro hb
  obtain ⟨_, c2, hc⟩ := h.lt X hb
  rw [hx] at hc
  injection hc with hc
  injection hc with _ hc _
  exact ht hc
/-- behind the append -/
theorem TS.app {w' : World} {a' : Option Addr} {n' cap' : Nat} {had2 : List Mk} (h : LS w0 B win last had2 k m w) (hrow : SlR w 29 2 a n cap (mkCells had)) (hown : ∀ b ∈ blk a cap, w0.heap.size ≤ b) (h2 : SlR w' 29 2 a' n' cap' (mkCells had2)) (hk : Kept (blk a cap) w w')
    (hat : ∀ b ∈ blk a' cap', b ∈ blk a cap ∨ w.heap.size ≤ b) (hm : n' ≤ m) : TS w0 B win last had2 k m a' n' cap' w' := by
  obtain ⟨xa, xn, xc, g1, g2, g3, g4⟩ := h.st
  refine ⟨⟨⟨xa, xn, xc, hk.heap (mk_ne hrow (by decide) g1) g1, ⟨g2.row.keep hk (fun b hb => ?_)⟩, g3, g4⟩, h.hk, h.win, h.kl, h.below.trans (hk.below hown h.below.size), h.le⟩, h2, fun b hb => ?_, hm⟩
  · obtain ⟨_, cur, hc⟩ := g2.row.lt b hb
    exact mk_ne hrow (by decide) hc
  · rcases hat b hb with r | r
    · exact hown b r
    · have := h.below.size; omega
theorem cl_app {w' : World} {C n0 : Nat} (h : CL w C n0) (hrow : SlR w 29 2 a n cap (mkCells had)) (hk : Kept (blk a cap) w w') : CL w' C n0 := by
  obtain ⟨x, y, z, u, h⟩ := h
  exact ⟨x, y, z, u, hk.heap (mk_ne hrow (by decide) h) h⟩
end
theorem cl_len {w : World} {C n0 : Nat} (h : CL w C n0) : Calls Try.prog 9 #[.pointer (some ⟨C, 0, none⟩)] w fun e w' => e = .returned (.int .i64 n0) ∧ w = w' := by
  obtain ⟨x, y, z, u, h⟩ := h
  exact len_any h

theorem min_tail {w0 w : World} {B : Nat} {win last : Int} {had k : List Mk} {m n cap : Nat} {a : Option Addr} (h : TS w0 B win last had k m a n cap w) (hm : m ≤ 1000000) {T x : Int} {bx : Bool} (hT : last ≤ T ∧ T ≤ 4611686018427387904) (hx : max 0 (mn win T had) = x) (hbx : decide (0 ≤ mn win T had) = bx) :
    Calls Try.prog 11 #[.pointer (some ⟨B, 0, none⟩), .int .i64 T] w fun e w' => e = .returned (.tuple #[.int .i64 x, .bool bx]) ∧ Below w.heap.size w w' :=
  (min_ls h.ls hm T hT).mono fun e w' ⟨r1, r2, r3⟩ => ⟨by subst hx hbx; rw [r1, minV, ← h.ls.hk.mn T hT.1], r3⟩
theorem rlen_tail {w0 w : World} {B : Nat} {win last : Int} {had k : List Mk} {m n cap : Nat} {a : Option Addr} (h : TS w0 B win last had k m a n cap w) :
    Calls Try.prog 14 #[.slice a n cap, .int .i64 win, .int .i64 last] w fun e w' => e = .returned (.int .i64 k.length) ∧ Below w.heap.size w w' := by
  rw [← h.ls.hk.len h.ls.win.1]
  exact rlen_any h.ma h.ls.hk.had win last h.ls.win h.ls.hk.last
def firstLoop : Code → Option Code
  | .loop c => some c
  | .seq a b => match firstLoop a with
    | some c => some c
    | none => firstLoop b
  | .block _ c => firstLoop c
  | .scope c => firstLoop c
  | .cond _ a b => match firstLoop a with
    | some c => some c
    | none => firstLoop b
  | _ => none
noncomputable def lowBody : Code := ((Try.f3.body.bind firstLoop).getD .skip)

set_option maxRecDepth 1000000 in
set_option maxHeartbeats 20000000 in
theorem round_right {w wr : World} {win ah : Int} (hw1 : 1 ≤ win) (hw2 : win ≤ 4611686018427387904) (hah : -9223372036854775808 ≤ ah ∧ ah ≤ 9223372036854775807) {B off n cap j : Nat} (hle : n ≤ cap) (hmost : cap ≤ 2 ^ 63 - 1) (h1 : j < n) (h2 : j < 100) {t v : Int}
    (HCC : Hid (w.cell? ⟨B, off + j * 2, none⟩ = some (.int .i64 t) ∧ w.cell? ⟨B, off + j * 2 + 1, none⟩ = some (.int .i64 v))) {b : Nat} {last : Int} {had k : List Mk} {a1 : Option Addr} {n1 c1' : Nat} (S : TS w b win last had k j a1 n1 c1' wr)
    (hr : last ≤ t ∧ t ≤ 4611686018427387904 ∧ 0 ≤ v ∧ v ≤ 4611686018427387904) {K : Act → World → Prop} {Q0 : Exit → Act → World → Prop} {u6 u12 u13 u14 u15 u16 u17 u18 u19 u48 u49 u50 u51 u52 u53 u54 u55 u56 u57 u58 u59 u60 u61 u62 u63 u64 u65 u66 u67 u68 u69 u70 u71 u72 u73 u74 u75 u76 u77 u78 u79 u80 u81 u82 u83 u84 u85 u86 u87 u88 u89 u90 u91 u92 u93 u94 u95 u96 u97 u98 u99 u100 u101 u102 u103 u104 u105 u106 u107 u108 u109 u110 u111 u112 u113 u114 u115 u116 u117 u118 u119 u120 u121 u122 u123 u124 u125 u126 u127 u128 u129 u130 u131 u132 u133 u134 u135 u136 u137 u138 u139 u140 u141 u142 u143 u144 u145 u146 u147 u148 u149 u150 u151 u152 u153 u154 u155 u156 u157 u158 u159 u160 u161 u162 u163 u164 u165 u166 u167 u168 u169 u170 u171 u172 u173 u174 u175 u176 u177 u178 u179 u180 u181 u182 u183 u184 u185 u186 u187 u188 u189 u190 u191 u192 c3 c4 c5 c8 c20 c21 c22 c23 c24 c25 c26 c27 c28 c29 c30 c31 c32 c33 c34 c35 c36 c37 c38 c39 c40 c41 c42 c43 c44 c45 c46 c47 c193 : Value}
    (hK : ∀ (last2 : Int) (had2 k2 : List Mk) (a6 : Option Addr) (n6 c6 : Nat) (W : World) (v6 v12 v13 v14 v15 v16 v17 v18 v19 v48 v49 v50 v51 v52 v53 v54 v55 v56 v57 v58 v59 v60 v61 v62 v63 v64 v65 v66 v67 v68 v69 v70 v71 v72 v73 v74 v75 v76 v77 v78 v79 v80 v81 v82 v83 v84 v85 v86 v87 v88 v89 v90 v91 v92 v93 v94 v95 v96 v97 v98 v99 v100 v101 v102 v103 v104 v105 v106 v107 v108 v109 v110 v111 v112 v113 v114 v115 v116 v117 v118 v119 v120 v121 v122 v123 v124 v125 v126 v127 v128 v129 v130 v131 v132 v133 v134 v135 v136 v137 v138 v139 v140 v141 v142 v143 v144 v145 v146 v147 v148 v149 v150 v151 v152 v153 v154 v155 v156 v157 v158 v159 v160 v161 v162 v163 v164 v165 v166 v167 v168 v169 v170 v171 v172 v173 v174 v175 v176 v177 v178 v179 v180 v181 v182 v183 v184 v185 v186 v187 v188 v189 v190 v191 v192 : Value), TS w b win last2 had2 k2 (j + 1) a6 n6 c6 W → Exit.then K Q0 Exit.normal { tmps := #[.int .i64 win, .slice (some ⟨B, off, none⟩) n cap, .int .i64 ah, c3, c4, c5, v6, .pointer (some ⟨b, 0, none⟩), c8, .slice a6 n6 c6, .int .i64 last2, .int .i64 ((j : Int) + 1), v12, v13, v14, v15, v16, v17, v18, v19, c20, c21, c22, c23, c24, c25, c26, c27, c28, c29, c30, c31, c32, c33, c34, c35, c36, c37, c38, c39, c40, c41, c42, c43, c44, c45, c46, c47, v48, v49, v50, v51, v52, v53, v54, v55, v56, v57, v58, v59, v60, v61, v62, v63, v64, v65, v66, v67, v68, v69, v70, v71, v72, v73, v74, v75, v76, v77, v78, v79, v80, v81, v82, v83, v84, v85, v86, v87, v88, v89, v90, v91, v92, v93, v94, v95, v96, v97, v98, v99, v100, v101, v102, v103, v104, v105, v106, v107, v108, v109, v110, v111, v112, v113, v114, v115, v116, v117, v118, v119, v120, v121, v122, v123, v124, v125, v126, v127, v128, v129, v130, v131, v132, v133, v134, v135, v136, v137, v138, v139, v140, v141, v142, v143, v144, v145, v146, v147, v148, v149, v150, v151, v152, v153, v154, v155, v156, v157, v158, v159, v160, v161, v162, v163, v164, v165, v166, v167, v168, v169, v170, v171, v172, v173, v174, v175, v176, v177, v178, v179, v180, v181, v182, v183, v184, v185, v186, v187, v188, v189, v190, v191, v192, c193], defers := [] } W) :
    Code.wp Try.prog lowBody (Exit.then K Q0) { tmps := #[.int .i64 win, .slice (some ⟨B, off, none⟩) n cap, .int .i64 ah, c3, c4, c5, u6, .pointer (some ⟨b, 0, none⟩), c8, .slice a1 n1 c1', .int .i64 last, .int .i64 (j : Int), u12, u13, u14, u15, u16, u17, u18, u19, c20, c21, c22, c23, c24, c25, c26, c27, c28, c29, c30, c31, c32, c33, c34, c35, c36, c37, c38, c39, c40, c41, c42, c43, c44, c45, c46, c47, u48, u49, u50, u51, u52, u53, u54, u55, u56, u57, u58, u59, u60, u61, u62, u63, u64, u65, u66, u67, u68, u69, u70, u71, u72, u73, u74, u75, u76, u77, u78, u79, u80, u81, u82, u83, u84, u85, u86, u87, u88, u89, u90, u91, u92, u93, u94, u95, u96, u97, u98, u99, u100, u101, u102, u103, u104, u105, u106, u107, u108, u109, u110, u111, u112, u113, u114, u115, u116, u117, u118, u119, u120, u121, u122, u123, u124, u125, u126, u127, u128, u129, u130, u131, u132, u133, u134, u135, u136, u137, u138, u139, u140, u141, u142, u143, u144, u145, u146, u147, u148, u149, u150, u151, u152, u153, u154, u155, u156, u157, u158, u159, u160, u161, u162, u163, u164, u165, u166, u167, u168, u169, u170, u171, u172, u173, u174, u175, u176, u177, u178, u179, u180, u181, u182, u183, u184, u185, u186, u187, u188, u189, u190, u191, u192, c193], defers := [] } wr := by
  obtain ⟨i0, hi, hz0, hz1, hz2⟩ := info_split info_mk
  have HKK := Lib.hid hK
  clear hK
  have c0 := cell_later S.ls.below HCC.out.1
  have c1 := cell_later S.ls.below HCC.out.2
  have hla := S.ls.hk.last
  obtain ⟨hla0, hla1⟩ := hla
  obtain ⟨r1, r2, r3, r4⟩ := hr
  conv => arg 2; whnf
  have HA := Lib.hid (fun W (S : LS w b win last had k j W) => add_ls S (by omega) t v r1 r2 r3 r4)
  have HCL := Lib.hid (fun W (S : LS w b win last had k j W) => clone_ls S (by omega))
  go_wp2_with (first
    | (go_at_call 8; (with_reducible refine (HCL.out _ S.ls).mono ?_); rintro x w3 ⟨C, a', cap', rfl, hC, _, hb3, hCB⟩; have hCL : CL w3 C k.length := ⟨_, _, _, _, hC⟩; have hne : C ≠ b := (fun e => by obtain ⟨_, _, _, g1, _⟩ := S.ls.st; have := lt_of_block g1; omega); replace S := S.later hb3; clear hb3 hC hCB; clear c0 c1; have c0 := cell_later S.ls.below HCC.out.1; have c1 := cell_later S.ls.below HCC.out.2)
    | (go_at_call 9; (with_reducible refine (cl_len hCL).mono ?_); rintro x w4 ⟨rfl, rfl⟩)
    | fail)
  replace S := S.later (Below.refl w3.heap.size w3).drew
  replace hCL := hCL.later (Below.refl w3.heap.size w3).drew
  go_region_held3 (fun w' => w'.cell? ⟨B, off + j * 2, none⟩ = some (.int .i64 t) ∧ w'.cell? ⟨B, off + j * 2 + 1, none⟩ = some (.int .i64 v)) (first | go_keep | exact ⟨cell_later L5.below HCC.out.1, cell_later L5.below HCC.out.2⟩)
    ((go_at_call 10; (with_reducible refine (HA.out _ S.ls).mono ?_); rintro x w5 ⟨rfl, L5, q1, q2⟩; have R5 := slr_keepT S.row (by obtain ⟨_, _, _, g1, _⟩ := S.ls.st; exact ⟨_, _, _, _, _, g1⟩) q1; replace hCL := cl_keepT hCL hne q1; have hown := S.own; have hnm := S.nm; clear S q1 q2))
  clear c0 c1
  have c0 := cell_later L5.below HCC.out.1
  have c1 := cell_later L5.below HCC.out.2
  have hal : Below w5.heap.size w5 (w5.alloc (.cells #[.int .i64 t, .int .i64 v] 29)) := (Below.refl _ _).alloc (Nat.le_refl _) _
  have HAP := Lib.hid (fun a' cap' W (h2 : SlR W 29 2 a' (n1 + 1) cap' (mkCells had ++ [.int .i64 t, .int .i64 v])) (hk : Kept (blk a1 c1') (w5.alloc (.cells #[.int .i64 t, .int .i64 v] 29)) W) (hat : ∀ b ∈ blk a' cap', b ∈ blk a1 c1' ∨ (w5.alloc (.cells #[.int .i64 t, .int .i64 v] 29)).heap.size ≤ b) =>
    And.intro (TS.app (had2 := had ++ [(t, v)]) (L5.later hal) (R5.later hal) hown (by rw [mk_append]; exact h2) hk hat (by omega)) (cl_app (had := had) (hCL.later hal) (R5.later hal) hk))
  have HR5 := Lib.hid (R5.later hal)
  clear hal R5 hown hCL
  go_upto_region 21 with (at_builtin; go_must (refine wpList_append_slr _ rfl (.tmp 118) (.tmp 123) 22 22 rfl 29 i0 (.agg #[.int .i64 0, .int .i64 0]) 2 16 Try.underlying22 hi hz0 hz1 (by decide) hz2 rfl a1 n1 c1' (mkCells had) rfl HR5.out _ rfl 1 (by decide) [.int .i64 t, .int .i64 v] (mk_src w5 (t, v)) (by unfold maxLen; omega) (by omega) ?_); intro a6 c6 w6 hrow hkp hat; obtain ⟨S, hCL⟩ := HAP.out a6 c6 w6 hrow hkp hat; clear hrow hkp hat)
  clear HAP HR5 HA HCL L5 c0 c1
  have c0 := cell_later S.ls.below HCC.out.1
  generalize kstep win k (t, v) = k2 at *
  generalize had ++ [(t, v)] = had2 at *
  generalize n1 + 1 = n6 at *
  go_upto_region 23 with (fail)
  go_cut [138] from 48 to 192 (fun s138 wx => s138 = .bool (decide (0 ≤ ah ∧ ah ≤ 4611686018427387904 - t)) ∧ wx = w6)
  case first =>
    clear S hCL
    by_cases hah0 : 0 ≤ ah
    · by_cases hah1 : ah ≤ 4611686018427387904 - t
      · go_wp2_with fail
        go_meet
        exact ⟨by simp [hah0, hah1], rfl⟩
      · go_wp2_with fail
        go_meet
        exact ⟨by simp; omega, rfl⟩
    · go_wp2_with fail
      go_meet
      exact ⟨by simp; omega, rfl⟩
  case rest =>
  obtain ⟨rfl, rfl⟩ := hcut
  go_upto_if 138 with (fail)
  go_cut [16] from 48 to 192 (fun s16 wx => ∃ T : Int, s16 = .int .i64 T ∧ t ≤ T ∧ T ≤ 4611686018427387904 ∧ wx = wc)
  case first =>
    clear S hCL
    by_cases hah0 : 0 ≤ ah ∧ ah ≤ 4611686018427387904 - t
    · go_wp2_with fail
      go_meet
      exact ⟨t + ah, rfl, by omega, by omega, rfl⟩
    · go_wp2_with fail
      go_meet
      exact ⟨t, rfl, by omega, by omega, rfl⟩
  case rest =>
  obtain ⟨T, rfl, hT0, hT1, rfl⟩ := hcut
  have HMI := Lib.hid (fun W x bx (hx : max 0 (mn win (T) had2) = x) (hbx : decide (0 ≤ mn win (T) had2) = bx) (S : TS w b win t had2 k2 (j + 1) a6 n6 c6 W) => min_tail S (by omega) (by omega) hx hbx)
  have HRM := Lib.hid (fun W (S : TS w b win t had2 k2 (j + 1) a6 n6 c6 W) => rmin_any S.ma S.ls.hk.had win (T) S.ls.win (by omega))
  have HB1 := mn_bd win (T) t had2 S.ls.hk.had
  generalize mn win (T) had2 = hv at *
  by_cases hv0 : 0 ≤ hv
  all_goals
    first
      | have HMI := Lib.hid (fun W => HMI.out W hv true (by omega) (by simpa using hv0))
      | have HMI := Lib.hid (fun W => HMI.out W 0 false (by omega) (by simpa using hv0))
    go_wp2_with (first
      | (go_at_call 11; (with_reducible refine (HMI.out _ S).mono ?_); rintro x w7 ⟨rfl, hb7⟩; replace S := S.later hb7; replace hCL := hCL.later hb7; clear hb7)
      | (go_at_call 12; (with_reducible refine (HRM.out _ S).mono ?_); rintro x w7 ⟨rfl, rfl⟩)
      | (go_at_call 13; (with_reducible refine (last_ls S.ls).mono ?_); rintro x w7 ⟨rfl, rfl⟩)
      | (go_at_call 9; (with_reducible refine (len_ls S.ls).mono ?_); rintro x w7 ⟨rfl, rfl⟩)
      | (go_at_call 9; (with_reducible refine (cl_len hCL).mono ?_); rintro x w7 ⟨rfl, rfl⟩)
      | (go_at_call 14; (with_reducible refine (rlen_tail S).mono ?_); rintro x w7 ⟨rfl, hb7⟩; replace S := S.later hb7; replace hCL := hCL.later hb7; clear hb7))
    exact HKK.out _ _ _ _ _ _ _ _ _ _ _ _ _ _ _ _ _ _ _ _ _ _ _ _ _ _ _ _ _ _ _ _ _ _ _ _ _ _ _ _ _ _ _ _ _ _ _ _ _ _ _ _ _ _ _ _ _ _ _ _ _ _ _ _ _ _ _ _ _ _ _ _ _ _ _ _ _ _ _ _ _ _ _ _ _ _ _ _ _ _ _ _ _ _ _ _ _ _ _ _ _ _ _ _ _ _ _ _ _ _ _ _ _ _ _ _ _ _ _ _ _ _ _ _ _ _ _ _ _ _ _ _ _ _ _ _ _ _ _ _ _ _ _ _ _ _ _ _ _ _ _ _ _ _ _ _ _ _ _ _ _ S
end Go.Proofs.Ytgonfdedapnlnaa.lo
