/-
  A round of layer 12's law whose mark is refused.
-/
import Derived.Test.YtgonfdedapnlnaaLowQ
import Derived.Deep.CutRange
namespace Go.Proofs.Ytgonfdedapnlnaa.lo
open Go.RowKit aid mem
attribute [local go_sem ↓] Go.wp_at_zero Go.wp_at_succ
set_option linter.unusedVariables false

set_option maxRecDepth 1000000 in
set_option maxHeartbeats 20000000 in
theorem round_left {w wr : World} {win ah : Int} (hw1 : 1 ≤ win) (hw2 : win ≤ 4611686018427387904) (hah : -9223372036854775808 ≤ ah ∧ ah ≤ 9223372036854775807) {B off n cap j : Nat} (hle : n ≤ cap) (hmost : cap ≤ 2 ^ 63 - 1) (h1 : j < n) (h2 : j < 100) {t v : Int}
    (HCC : Hid (w.cell? ⟨B, off + j * 2, none⟩ = some (.int .i64 t) ∧ w.cell? ⟨B, off + j * 2 + 1, none⟩ = some (.int .i64 v))) {b : Nat} {last : Int} {had k : List Mk} {a1 : Option Addr} {n1 c1' : Nat} (S : TS w b win last had k j a1 n1 c1' wr)
    (hr : ¬ (last ≤ t ∧ t ≤ 4611686018427387904 ∧ 0 ≤ v ∧ v ≤ 4611686018427387904)) {K : Act → World → Prop} {Q0 : Exit → Act → World → Prop} {u6 u12 u13 u14 u15 u16 u17 u18 u19 u48 u49 u50 u51 u52 u53 u54 u55 u56 u57 u58 u59 u60 u61 u62 u63 u64 u65 u66 u67 u68 u69 u70 u71 u72 u73 u74 u75 u76 u77 u78 u79 u80 u81 u82 u83 u84 u85 u86 u87 u88 u89 u90 u91 u92 u93 u94 u95 u96 u97 u98 u99 u100 u101 u102 u103 u104 u105 u106 u107 u108 u109 u110 u111 u112 u113 u114 u115 u116 u117 u118 u119 u120 u121 u122 u123 u124 u125 u126 u127 u128 u129 u130 u131 u132 u133 u134 u135 u136 u137 u138 u139 u140 u141 u142 u143 u144 u145 u146 u147 u148 u149 u150 u151 u152 u153 u154 u155 u156 u157 u158 u159 u160 u161 u162 u163 u164 u165 u166 u167 u168 u169 u170 u171 u172 u173 u174 u175 u176 u177 u178 u179 u180 u181 u182 u183 u184 u185 u186 u187 u188 u189 u190 u191 u192 c3 c4 c5 c8 c20 c21 c22 c23 c24 c25 c26 c27 c28 c29 c30 c31 c32 c33 c34 c35 c36 c37 c38 c39 c40 c41 c42 c43 c44 c45 c46 c47 c193 : Value}
    (hK : ∀ (last2 : Int) (had2 k2 : List Mk) (a6 : Option Addr) (n6 c6 : Nat) (W : World) (v6 v12 v13 v14 v15 v16 v17 v18 v19 v48 v49 v50 v51 v52 v53 v54 v55 v56 v57 v58 v59 v60 v61 v62 v63 v64 v65 v66 v67 v68 v69 v70 v71 v72 v73 v74 v75 v76 v77 v78 v79 v80 v81 v82 v83 v84 v85 v86 v87 v88 v89 v90 v91 v92 v93 v94 v95 v96 v97 v98 v99 v100 v101 v102 v103 v104 v105 v106 v107 v108 v109 v110 v111 v112 v113 v114 v115 v116 v117 v118 v119 v120 v121 v122 v123 v124 v125 v126 v127 v128 v129 v130 v131 v132 v133 v134 v135 v136 v137 v138 v139 v140 v141 v142 v143 v144 v145 v146 v147 v148 v149 v150 v151 v152 v153 v154 v155 v156 v157 v158 v159 v160 v161 v162 v163 v164 v165 v166 v167 v168 v169 v170 v171 v172 v173 v174 v175 v176 v177 v178 v179 v180 v181 v182 v183 v184 v185 v186 v187 v188 v189 v190 v191 v192 : Value), TS w b win last2 had2 k2 (j + 1) a6 n6 c6 W → Exit.then K Q0 Exit.normal { tmps := #[.int .i64 win, .slice (some ⟨B, off, none⟩) n cap, .int .i64 ah, c3, c4, c5, v6, .pointer (some ⟨b, 0, none⟩), c8, .slice a6 n6 c6, .int .i64 last2, .int .i64 ((j : Int) + 1), v12, v13, v14, v15, v16, v17, v18, v19, c20, c21, c22, c23, c24, c25, c26, c27, c28, c29, c30, c31, c32, c33, c34, c35, c36, c37, c38, c39, c40, c41, c42, c43, c44, c45, c46, c47, v48, v49, v50, v51, v52, v53, v54, v55, v56, v57, v58, v59, v60, v61, v62, v63, v64, v65, v66, v67, v68, v69, v70, v71, v72, v73, v74, v75, v76, v77, v78, v79, v80, v81, v82, v83, v84, v85, v86, v87, v88, v89, v90, v91, v92, v93, v94, v95, v96, v97, v98, v99, v100, v101, v102, v103, v104, v105, v106, v107, v108, v109, v110, v111, v112, v113, v114, v115, v116, v117, v118, v119, v120, v121, v122, v123, v124, v125, v126, v127, v128, v129, v130, v131, v132, v133, v134, v135, v136, v137, v138, v139, v140, v141, v142, v143, v144, v145, v146, v147, v148, v149, v150, v151, v152, v153, v154, v155, v156, v157, v158, v159, v160, v161, v162, v163, v164, v165, v166, v167, v168, v169, v170, v171, v172, v173, v174, v175, v176, v177, v178, v179, v180, v181, v182, v183, v184, v185, v186, v187, v188, v189, v190, v191, v192, c193], defers := [] } W) :
    Code.wp Try.prog lowBody (Exit.then K Q0) { tmps := #[.int .i64 win, .slice (some ⟨B, off, none⟩) n cap, .int .i64 ah, c3, c4, c5, u6, .pointer (some ⟨b, 0, none⟩), c8, .slice a1 n1 c1', .int .i64 last, .int .i64 (j : Int), u12, u13, u14, u15, u16, u17, u18, u19, c20, c21, c22, c23, c24, c25, c26, c27, c28, c29, c30, c31, c32, c33, c34, c35, c36, c37, c38, c39, c40, c41, c42, c43, c44, c45, c46, c47, u48, u49, u50, u51, u52, u53, u54, u55, u56, u57, u58, u59, u60, u61, u62, u63, u64, u65, u66, u67, u68, u69, u70, u71, u72, u73, u74, u75, u76, u77, u78, u79, u80, u81, u82, u83, u84, u85, u86, u87, u88, u89, u90, u91, u92, u93, u94, u95, u96, u97, u98, u99, u100, u101, u102, u103, u104, u105, u106, u107, u108, u109, u110, u111, u112, u113, u114, u115, u116, u117, u118, u119, u120, u121, u122, u123, u124, u125, u126, u127, u128, u129, u130, u131, u132, u133, u134, u135, u136, u137, u138, u139, u140, u141, u142, u143, u144, u145, u146, u147, u148, u149, u150, u151, u152, u153, u154, u155, u156, u157, u158, u159, u160, u161, u162, u163, u164, u165, u166, u167, u168, u169, u170, u171, u172, u173, u174, u175, u176, u177, u178, u179, u180, u181, u182, u183, u184, u185, u186, u187, u188, u189, u190, u191, u192, c193], defers := [] } wr := by
  obtain ⟨i0, hi, hz0, hz1, hz2⟩ := info_split info_mk
  have HKK := Lib.hid hK
  clear hK
  have c0 := cell_later S.ls.below HCC.out.1
  have c1 := cell_later S.ls.below HCC.out.2
  have hla := S.ls.hk.last
  obtain ⟨hla0, hla1⟩ := hla
  conv => arg 2; whnf
  have HA := Lib.hid (fun W (S : LS w b win last had k j W) => add_bad_ls S t v (by omega))
  have HCL := Lib.hid (fun W (S : LS w b win last had k j W) => clone_ls S (by omega))
  go_upto_region 13 with (fail)
  go_cut [12] from 48 to 192 (fun s12 wx => s12 = .bool false ∧ wx = wr)
  case first =>
    by_cases q1 : last ≤ t
    · by_cases q2 : t ≤ 4611686018427387904
      · by_cases q3 : 0 ≤ v
        · have q4 : ¬ v ≤ 4611686018427387904 := by omega
          go_wp2_with fail
          go_meet
          exact ⟨rfl, rfl⟩
        · go_wp2_with fail
          go_meet
          exact ⟨rfl, rfl⟩
      · go_wp2_with fail
        go_meet
        exact ⟨rfl, rfl⟩
    · go_wp2_with fail
      go_meet
      exact ⟨rfl, rfl⟩
  case rest =>
  obtain ⟨rfl, rfl⟩ := hcut
  have HR := Lib.hid hr
  clear hr
  go_wp2_with (first
    | (go_at_call 8; (with_reducible refine (HCL.out _ S.ls).mono ?_); rintro x w3 ⟨C, a', cap', rfl, hC, _, hb3, hCB⟩; have hCL : CL w3 C k.length := ⟨_, _, _, _, hC⟩; have hne : C ≠ b := (fun e => by obtain ⟨_, _, _, g1, _⟩ := S.ls.st; have := lt_of_block g1; omega); replace S := S.later hb3; clear hb3 hC hCB; clear c0 c1; have c0 := cell_later S.ls.below HCC.out.1; have c1 := cell_later S.ls.below HCC.out.2)
    | (go_at_call 9; (with_reducible refine (cl_len hCL).mono ?_); rintro x w4 ⟨rfl, rfl⟩)
    | fail)
  replace S := S.later (Below.refl w3.heap.size w3).drew
  replace hCL := hCL.later (Below.refl w3.heap.size w3).drew
  go_region_held3 (fun w' => w'.cell? ⟨B, off + j * 2, none⟩ = some (.int .i64 t) ∧ w'.cell? ⟨B, off + j * 2 + 1, none⟩ = some (.int .i64 v)) (first | go_keep | exact ⟨cell_later S.ls.below HCC.out.1, cell_later S.ls.below HCC.out.2⟩)
    ((go_at_call 10; (with_reducible refine (HA.out _ S.ls).mono ?_); rintro x w5 ⟨rfl, _, q1⟩; replace S := S.later q1; replace hCL := hCL.later q1; clear q1))
  replace S := S.up
  clear HA HCL c0 c1
  go_upto_region 23 with (fail)
  go_cut [138] from 48 to 192 (fun s138 wx => s138 = .bool (decide (0 ≤ ah ∧ ah ≤ 4611686018427387904 - last)) ∧ wx = w5)
  case first =>
    clear S hCL
    by_cases hah0 : 0 ≤ ah
    · by_cases hah1 : ah ≤ 4611686018427387904 - last
      · go_wp2_with fail
        go_meet
        exact ⟨by simp [hah0, hah1], rfl⟩
      · go_wp2_with fail
        go_meet
        exact ⟨by simp; omega, rfl⟩
    · go_wp2_with fail
      go_meet
      exact ⟨by simp; omega, rfl⟩
  case rest =>
  obtain ⟨rfl, rfl⟩ := hcut
  go_upto_if 138 with (fail)
  go_cut [16] from 48 to 192 (fun s16 wx => ∃ T : Int, s16 = .int .i64 T ∧ last ≤ T ∧ T ≤ 4611686018427387904 ∧ wx = wc)
  case first =>
    clear S hCL
    by_cases hah0 : 0 ≤ ah ∧ ah ≤ 4611686018427387904 - last
    · go_wp2_with fail
      go_meet
      exact ⟨last + ah, rfl, by omega, by omega, rfl⟩
    · go_wp2_with fail
      go_meet
      exact ⟨last, rfl, by omega, by omega, rfl⟩
  case rest =>
  obtain ⟨T, rfl, hT0, hT1, rfl⟩ := hcut
  have HMI := Lib.hid (fun W x bx (hx : max 0 (mn win (T) had) = x) (hbx : decide (0 ≤ mn win (T) had) = bx) (S : TS w b win last had k (j + 1) a1 n1 c1' W) => min_tail S (by omega) (by omega) hx hbx)
  have HRM := Lib.hid (fun W (S : TS w b win last had k (j + 1) a1 n1 c1' W) => rmin_any S.ma S.ls.hk.had win (T) S.ls.win (by omega))
  have HB1 := mn_bd win (T) last had S.ls.hk.had
  generalize mn win (T) had = hv at *
  by_cases hv0 : 0 ≤ hv
  all_goals
    first
      | have HMI := Lib.hid (fun W => HMI.out W hv true (by omega) (by simpa using hv0))
      | have HMI := Lib.hid (fun W => HMI.out W 0 false (by omega) (by simpa using hv0))
    go_wp2_with (first
      | (go_at_call 11; (with_reducible refine (HMI.out _ S).mono ?_); rintro x w7 ⟨rfl, hb7⟩; replace S := S.later hb7; replace hCL := hCL.later hb7; clear hb7)
      | (go_at_call 12; (with_reducible refine (HRM.out _ S).mono ?_); rintro x w7 ⟨rfl, rfl⟩)
      | (go_at_call 13; (with_reducible refine (last_ls S.ls).mono ?_); rintro x w7 ⟨rfl, rfl⟩)
      | (go_at_call 9; (with_reducible refine (len_ls S.ls).mono ?_); rintro x w7 ⟨rfl, rfl⟩)
      | (go_at_call 9; (with_reducible refine (cl_len hCL).mono ?_); rintro x w7 ⟨rfl, rfl⟩)
      | (go_at_call 14; (with_reducible refine (rlen_tail S).mono ?_); rintro x w7 ⟨rfl, hb7⟩; replace S := S.later hb7; replace hCL := hCL.later hb7; clear hb7))
    exact HKK.out _ _ _ _ _ _ _ _ _ _ _ _ _ _ _ _ _ _ _ _ _ _ _ _ _ _ _ _ _ _ _ _ _ _ _ _ _ _ _ _ _ _ _ _ _ _ _ _ _ _ _ _ _ _ _ _ _ _ _ _ _ _ _ _ _ _ _ _ _ _ _ _ _ _ _ _ _ _ _ _ _ _ _ _ _ _ _ _ _ _ _ _ _ _ _ _ _ _ _ _ _ _ _ _ _ _ _ _ _ _ _ _ _ _ _ _ _ _ _ _ _ _ _ _ _ _ _ _ _ _ _ _ _ _ _ _ _ _ _ _ _ _ _ _ _ _ _ _ _ _ _ _ _ _ _ _ _ _ _ _ _ S
end Go.Proofs.Ytgonfdedapnlnaa.lo
