/-
  Layer 12's law: whatever values come when.
-/
import Derived.Test.YtgonfdedapnlnaaLowT
import Derived.Deep.CutRange
namespace Go.Proofs.Ytgonfdedapnlnaa.lo
open Go.RowKit aid mem
attribute [local go_sem ↓] Go.wp_at_zero Go.wp_at_succ
set_option linter.unusedVariables false

set_option maxRecDepth 100000 in
set_option maxHeartbeats 20000000 in
theorem walk_LowPlays (w : World) (win : Int) (hwin : -9223372036854775808 ≤ win ∧ win ≤ 9223372036854775807) (a : Option Addr) (n cap : Nat) (l : List Mk) (hl : Ma w a n cap l) (ah : Int) (hah : -9223372036854775808 ≤ ah ∧ ah ≤ 9223372036854775807) :
    Calls Try.prog 3 #[.int .i64 win, .slice a n cap, .int .i64 ah] w fun x w' => x = .returned (.bool true) ∧ Below w.heap.size w w' := by
  obtain ⟨i0, hi, hz0, hz1, hz2⟩ := info_split info_mk
  have hb := Below.refl w.heap.size w
  have hle := hl.le
  have hmost := hl.most
  unfold maxLen at hmost
  have HC := Lib.hid hl.cells
  clear hl
  by_cases hw : 1 ≤ win ∧ win ≤ 4611686018427387904
  case neg =>
    have HN := Lib.hid (fun W => new_bad (w := W) hw)
    go_enter Try.func3, Try.ntmps3
    by_cases hw1 : win < 1
    · clear hw
      go_wp2_with (first
        | (go_at_call 6; (with_reducible refine (known_b hb).mono ?_); clear hb; rintro e w1 ⟨rfl, hb⟩)
        | (go_at_call 7; (with_reducible refine (HN.out _).mono ?_); rintro e w2 ⟨rfl, rfl⟩))
      go_ret
      exact ⟨rfl, hb⟩
    · have hw2 : 4611686018427387904 < win := by omega
      clear hw
      go_wp2_with (first
        | (go_at_call 6; (with_reducible refine (known_b hb).mono ?_); clear hb; rintro e w1 ⟨rfl, hb⟩)
        | (go_at_call 7; (with_reducible refine (HN.out _).mono ?_); rintro e w2 ⟨rfl, rfl⟩))
      go_ret
      exact ⟨rfl, hb⟩
  case pos =>
    have HNE := Lib.hid hw
    obtain ⟨hw1, hw2⟩ := hw
    go_enter Try.func3, Try.ntmps3
    go_wp2_with (first
      | (go_at_call 6; (with_reducible refine (known_b hb).mono ?_); clear hb; rintro e w1 ⟨rfl, hb⟩)
      | (go_at_call 7; (with_reducible refine (new_ls hb HNE.out).mono ?_); clear hb; rintro x w1 ⟨b, rfl, S, q1, q2⟩; clear q1 q2))
    go_loopw [9, 10, 11] (fun s9 s10 i wr => ∃ (j : Nat) (last : Int) (had k : List Mk) (a1 : Option Addr) (n1 c1 : Nat), i = .int .i64 j ∧ s9 = .slice a1 n1 c1 ∧ s10 = .int .i64 last ∧ j ≤ n ∧ j ≤ 100 ∧ TS w b win last had k j a1 n1 c1 wr) (fun _ _ i _ => 100 - (intOf i).toNat)
    case atStart => exact ⟨0, 0, [], [], none, 0, 0, rfl, rfl, rfl, by omega, by omega, ⟨S, SlR.nil _ _ _, fun b hb => by simp [blk_zero] at hb, by omega⟩⟩
    case round =>
      clear S
      obtain ⟨j, last, had, k, a1, n1, c1', rfl, rfl, rfl, hj, hj2, S⟩ := hrel
      by_cases hlt : j < n ∧ j < 100
      · obtain ⟨h1, h2⟩ := hlt
        obtain ⟨B, off, rfl, hc⟩ := HC.out (by omega)
        have HCC := Lib.hid (hc j h1)
        have c0 := cell_later S.ls.below HCC.out.1
        have c1 := cell_later S.ls.below HCC.out.2
        have hla := S.ls.hk.last
        obtain ⟨hla0, hla1⟩ := hla
        clear hc
        generalize l.getD j (0, 0) = mm at *
        obtain ⟨t, v⟩ := mm
        dsimp only at *
        by_cases hr : last ≤ t ∧ t ≤ 4611686018427387904 ∧ 0 ≤ v ∧ v ≤ 4611686018427387904
        · refine round_right hw1 hw2 hah hle hmost h1 h2 HCC S hr ?_
          intro last2 had2 k2 a6 n6 c6 W v6 v12 v13 v14 v15 v16 v17 v18 v19 v48 v49 v50 v51 v52 v53 v54 v55 v56 v57 v58 v59 v60 v61 v62 v63 v64 v65 v66 v67 v68 v69 v70 v71 v72 v73 v74 v75 v76 v77 v78 v79 v80 v81 v82 v83 v84 v85 v86 v87 v88 v89 v90 v91 v92 v93 v94 v95 v96 v97 v98 v99 v100 v101 v102 v103 v104 v105 v106 v107 v108 v109 v110 v111 v112 v113 v114 v115 v116 v117 v118 v119 v120 v121 v122 v123 v124 v125 v126 v127 v128 v129 v130 v131 v132 v133 v134 v135 v136 v137 v138 v139 v140 v141 v142 v143 v144 v145 v146 v147 v148 v149 v150 v151 v152 v153 v154 v155 v156 v157 v158 v159 v160 v161 v162 v163 v164 v165 v166 v167 v168 v169 v170 v171 v172 v173 v174 v175 v176 v177 v178 v179 v180 v181 v182 v183 v184 v185 v186 v187 v188 v189 v190 v191 v192 S2
          go_roundw
          case rel => exact ⟨_, _, _, _, _, _, _, _, _, _, _, _, _, _, _, _, _, _, _, _, _, _, _, _, _, _, _, _, _, _, _, _, _, _, _, _, _, _, _, _, _, _, _, _, _, _, _, _, _, _, _, _, _, _, _, _, _, _, _, _, _, _, _, _, _, _, _, _, _, _, _, _, _, _, _, _, _, _, _, _, _, _, _, _, _, _, _, _, _, _, _, _, _, _, _, _, _, _, _, _, _, _, _, _, _, _, _, _, _, _, _, _, _, _, _, _, _, _, _, _, _, _, _, _, _, _, _, _, _, _, _, _, _, _, _, _, _, _, _, _, _, _, _, _, _, _, _, _, _, _, _, _, _, _, _, _, _, ⟨j + 1, last2, had2, k2, a6, n6, c6, by go_num, rfl, rfl, by omega, by omega, S2⟩, rfl⟩
          case measure => simp [intOf]; omega
        · refine round_left hw1 hw2 hah hle hmost h1 h2 HCC S hr ?_
          intro last2 had2 k2 a6 n6 c6 W v6 v12 v13 v14 v15 v16 v17 v18 v19 v48 v49 v50 v51 v52 v53 v54 v55 v56 v57 v58 v59 v60 v61 v62 v63 v64 v65 v66 v67 v68 v69 v70 v71 v72 v73 v74 v75 v76 v77 v78 v79 v80 v81 v82 v83 v84 v85 v86 v87 v88 v89 v90 v91 v92 v93 v94 v95 v96 v97 v98 v99 v100 v101 v102 v103 v104 v105 v106 v107 v108 v109 v110 v111 v112 v113 v114 v115 v116 v117 v118 v119 v120 v121 v122 v123 v124 v125 v126 v127 v128 v129 v130 v131 v132 v133 v134 v135 v136 v137 v138 v139 v140 v141 v142 v143 v144 v145 v146 v147 v148 v149 v150 v151 v152 v153 v154 v155 v156 v157 v158 v159 v160 v161 v162 v163 v164 v165 v166 v167 v168 v169 v170 v171 v172 v173 v174 v175 v176 v177 v178 v179 v180 v181 v182 v183 v184 v185 v186 v187 v188 v189 v190 v191 v192 S2
          go_roundw
          case rel => exact ⟨_, _, _, _, _, _, _, _, _, _, _, _, _, _, _, _, _, _, _, _, _, _, _, _, _, _, _, _, _, _, _, _, _, _, _, _, _, _, _, _, _, _, _, _, _, _, _, _, _, _, _, _, _, _, _, _, _, _, _, _, _, _, _, _, _, _, _, _, _, _, _, _, _, _, _, _, _, _, _, _, _, _, _, _, _, _, _, _, _, _, _, _, _, _, _, _, _, _, _, _, _, _, _, _, _, _, _, _, _, _, _, _, _, _, _, _, _, _, _, _, _, _, _, _, _, _, _, _, _, _, _, _, _, _, _, _, _, _, _, _, _, _, _, _, _, _, _, _, _, _, _, _, _, _, _, _, _, ⟨j + 1, last2, had2, k2, a6, n6, c6, by go_num, rfl, rfl, by omega, by omega, S2⟩, rfl⟩
          case measure => simp [intOf]; omega
      · by_cases h1 : j < n
        · have h2 : ¬ j < 100 := by omega
          go_wp2_with (go_at_call 6; (with_reducible refine (known_b S.ls.below).mono ?_); rintro e w5 ⟨rfl, hb⟩)
          go_ret
          exact ⟨rfl, hb⟩
        · go_wp2_with (go_at_call 6; (with_reducible refine (known_b S.ls.below).mono ?_); rintro e w5 ⟨rfl, hb⟩)
          go_ret
          exact ⟨rfl, hb⟩
end Go.Proofs.Ytgonfdedapnlnaa.lo
