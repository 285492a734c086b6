/-
  The walks of the laws of layer 2.
-/
import Derived.Test.YthkgdeehehjpmaaOctK
namespace Go.Proofs.Ythkgdeehehjpmaa.oc
open Go.RowKit aid mem
set_option linter.unusedVariables false

/-- a slice of integers that came in, as a slice that is read -/
theorem sl_of_row {k : IntKind} {w : World} {a : Option Addr} {len cap : Nat} {zs : List Int} (h : IsRow k w a len cap zs) : SlA k w a len cap (zs.take len) := by
  rcases h with ⟨h1, h2, h3, h4⟩ | ⟨x, hx, h1, h2, h3, h4, h5⟩
  · subst h1 h2 h3 h4
    exact ⟨rfl, Nat.le_refl _, by simp [maxLen], fun _ => rfl, fun h => by omega⟩
  · refine ⟨by simp; omega, h1, h2, (fun h => by rw [hx] at h; cases h), fun h0 => ?_⟩
    obtain ⟨b, off, rfl, hc⟩ := ints_at h4 (by omega)
    refine ⟨b, off, hx, fun i hi => ?_⟩
    rw [hc i (by omega)]
    congr 2
    simp [List.getD, hi]
theorem wf_of_row {k : IntKind} {w : World} {a : Option Addr} {len cap : Nat} {zs : List Int} (h : IsRow k w a len cap zs) : ∀ n ∈ zs.take len, (Lit.int k n).wf = true := by
  rcases h with ⟨h1, h2, h3, h4⟩ | ⟨x, hx, h1, h2, h3, h4, h5⟩
  · subst h4; simp
  · exact fun n hn => h5 n (List.mem_of_mem_take hn)

/-! ### what is written of a number, and read -/
def enc1 (x : Int) : List Int := [x / 16777216, x / 65536 % 256, x / 256 % 256, x % 256] ++ ([x % 65536 / 256, x % 65536 % 256] ++ [x % 256])
def enc (l : List Int) : List Int := l.flatMap enc1
theorem enc_snoc (l : List Int) (x : Int) : enc (l ++ [x]) = enc l ++ [x / 16777216, x / 65536 % 256, x / 256 % 256, x % 256] ++ [x % 65536 / 256, x % 65536 % 256] ++ [x % 256] := by
  simp [enc, enc1]
theorem enc_cons (l : List Int) (x : Int) : enc (x :: l) = enc1 x ++ enc l := by simp [enc]
theorem enc_len (l : List Int) : (enc l).length = 7 * l.length := by
  induction l with
  | nil => rfl
  | cons x l ih => rw [enc_cons, List.length_append, ih]; simp [enc1]; omega
theorem enc_bd (l : List Int) (h : ∀ x ∈ l, 0 ≤ x ∧ x ≤ 4294967295) : ∀ y ∈ enc l, 0 ≤ y ∧ y ≤ 255 := by
  intro y hy
  obtain ⟨x, hx, hy⟩ := List.mem_flatMap.1 hy
  have := h x hx
  simp [enc1] at hy
  omega
theorem bd_app {l r : List Int} (h1 : ∀ y ∈ l, 0 ≤ y ∧ y ≤ 255) (h2 : ∀ y ∈ r, 0 ≤ y ∧ y ≤ 255) : ∀ y ∈ l ++ r, 0 ≤ y ∧ y ≤ 255 := fun y hy => by
  rcases List.mem_append.1 hy with hy | hy
  · exact h1 y hy
  · exact h2 y hy
theorem bd_enc1 (x : Int) (h : 0 ≤ x ∧ x ≤ 4294967295) : ∀ y ∈ enc1 x, 0 ≤ y ∧ y ≤ 255 := fun y hy => by simp [enc1] at hy; omega
theorem bd_two (x : Int) (h : 0 ≤ x ∧ x ≤ 4294967295) : ∀ y ∈ [x % 65536 / 256, x % 65536 % 256], 0 ≤ y ∧ y ≤ 255 := fun y hy => by simp at hy; omega
theorem bd_one (x : Int) : ∀ y ∈ [x % 256], 0 ≤ y ∧ y ≤ 255 := fun y hy => by simp at hy; omega
theorem dec4 (x : Int) (r : List Int) (h : 0 ≤ x ∧ x ≤ 4294967295) : num ((enc1 x ++ r).take 4) = x := by simp [enc1, num]; omega
theorem dec4d (x : Int) (r : List Int) : (enc1 x ++ r).drop 4 = [x % 65536 / 256, x % 65536 % 256] ++ ([x % 256] ++ r) := by simp [enc1]
theorem dec2 (x : Int) (r : List Int) (h : 0 ≤ x ∧ x ≤ 4294967295) : num (([x % 65536 / 256, x % 65536 % 256] ++ r).take 2) % 65536 = x % 65536 := by simp [num]; omega
theorem dec2d (a b : Int) (r : List Int) : ([a, b] ++ r).drop 2 = r := by simp
theorem dec1 (x : Int) (r : List Int) (h : 0 ≤ x ∧ x ≤ 4294967295) : num (([x % 256] ++ r).take 1) % 256 = x % 256 := by simp [num]
theorem dec1d (a : Int) (r : List Int) : ([a] ++ r).drop 1 = r := by simp

set_option maxRecDepth 100000 in
set_option maxHeartbeats 3200000 in
theorem walk_OctetBack (a0 : Option Addr) (len0 cap0 : Nat) (z0 : List Int) (w : World) (w0 : IsRow .u32 w a0 len0 cap0 z0) :
    Calls Try.prog 11 #[.slice a0 len0 cap0] w fun e w' => e = .returned (.bool true) ∧ Below w.heap.size w w' := by
  have hsl := sl_of_row w0
  have hwf := wf_of_row w0
  have hle := hsl.le
  have hm := hsl.most
  unfold maxLen at hm
  generalize z0.take len0 = zs at *
  clear w0
  have hzb : ∀ x ∈ zs, 0 ≤ x ∧ x ≤ 4294967295 := fun x hx => bounds_u32 (hwf x hx)
  have hzl := hsl.len
  have hzg : len0 ≤ zs.length := by omega
  have HC : Hid (∀ i, i < len0 → ∃ b off, a0 = some ⟨b, off, none⟩ ∧ w.cell? ⟨b, off + i, none⟩ = some (.int .u32 (zs.getD i 0))) := fun i hi => by
    obtain ⟨b, off, h1, h2⟩ := hsl.cells (by omega)
    exact ⟨b, off, h1, h2 i hi⟩
  have HB := Lib.hid hzb
  have HL := Lib.hid hzl
  clear hsl hwf hzb hzl
  have hshape : (∃ b off, a0 = some ⟨b, off, none⟩) ∨ len0 = 0 := by
    by_cases h0 : len0 = 0
    · exact .inr h0
    · obtain ⟨b, off, h1, _⟩ := HC.out 0 (by omega)
      exact .inl ⟨b, off, h1⟩
  have HC2 : Hid (∀ b off, a0 = some ⟨b, off, none⟩ → ∀ i, i < len0 → w.cell? ⟨b, off + i, none⟩ = some (.int .u32 (zs.getD i 0))) := fun b off e i hi => by
    obtain ⟨b', off', h1, h2⟩ := HC.out i hi
    rw [e] at h1
    injection h1 with h1
    injection h1 with h1 h3
    subst h1 h3
    exact h2
  clear HC
  go_enter Try.func11, Try.ntmps11
  go_wp2_with fail
  refine (known_any w).mono ?_
  rintro e w1 ⟨rfl, hb1⟩
  have hsz1 := hb1.size
  go_wp2_with fail
  obtain ⟨p, hp⟩ : ∃ p, w1.heap.size = p := ⟨_, rfl⟩
  have hch0 : Chain w.heap.size w p [] (w1.alloc (.cells #[.pointer none, .int .i64 0] 43)) := ⟨⟨[], by rw [← hp]; exact wr_new _ _, by simp⟩, by omega, hb1.trans ((Below.refl _ _).alloc hsz1 _)⟩
  rw [hp]
  have HP := Lib.hid hp
  clear hp
  go_loopw [4] (fun i wr => ∃ k : Nat, k ≤ len0 ∧ k ≤ 200 ∧ i = .int .i64 k ∧ Chain w.heap.size w p (enc (zs.take k)) wr) (fun i _ => len0 - (intOf i).toNat)
  case atStart => exact ⟨0, Nat.zero_le _, Nat.zero_le _, rfl, hch0⟩
  case round =>
    clear hch0
    obtain ⟨k, hk, hk200, rfl, hch⟩ := hrel
    obtain ⟨⟨S, hw, hS⟩, hpB, hbel⟩ := hch
    by_cases hlt' : k < len0 ∧ k < 200
    · obtain ⟨hlt, hlt2⟩ := hlt'
      obtain ⟨b, off, rfl⟩ : ∃ b off, a0 = some ⟨b, off, none⟩ := by
        rcases hshape with h | h
        · exact h
        · omega
      have hcell0 := HC2.out b off rfl k hlt
      have hx := getD_bd (fun x => 0 ≤ x ∧ x ≤ 4294967295) (by omega) HB.out k
      have HS := enc_snoc (zs.take k) (zs.getD k 0)
      rw [← take_snoc zs 0 k (by omega)] at HS
      have hel : (enc (zs.take k)).length = 7 * k := by rw [enc_len]; simp; omega
      have HE := Lib.hid hel
      clear hel
      generalize zs.getD k 0 = x at *
      generalize enc (zs.take k) = E at *
      have HT := Lib.hid HS
      clear HS
      have hbk : b < w.heap.size := World.block_lt_of_cell? w _ hcell0
      have hcell : wr.cell? ⟨b, off + k, none⟩ = some (.int .u32 x) := (hbel.cell (p := ⟨b, off + k, none⟩) hbk).trans hcell0
      go_wp2_with fail
      refine (four_any p S E x wr hw hx (by have := HE.out; omega)).mono ?_
      rintro e w2 ⟨rfl, h2⟩
      have hc2 := Chain.step hbel.size hpB hbel hS h2
      clear h2 hw hS hbel hcell
      obtain ⟨⟨S2, hw2, hS2⟩, _, hb2⟩ := hc2
      have hcell : w2.cell? ⟨b, off + k, none⟩ = some (.int .u32 x) := (hb2.cell (p := ⟨b, off + k, none⟩) hbk).trans hcell0
      go_wp2_with fail
      refine (two_any p S2 _ (x % 65536) w2 hw2 (by omega) (by have := HE.out; simp; omega)).mono ?_
      rintro e w3 ⟨rfl, h3⟩
      have hc3 := Chain.step hb2.size hpB hb2 hS2 h3
      clear h3 hw2 hS2 hb2 hcell
      obtain ⟨⟨S3, hw3, hS3⟩, _, hb3⟩ := hc3
      have hcell : w3.cell? ⟨b, off + k, none⟩ = some (.int .u32 x) := (hb3.cell (p := ⟨b, off + k, none⟩) hbk).trans hcell0
      go_wp2_with fail
      refine (one_any p S3 _ (x % 256) w3 hw3 (by have := HE.out; simp; omega)).mono ?_
      rintro e w4 ⟨rfl, h4⟩
      have hc4 := Chain.step hb3.size hpB hb3 hS3 h4
      clear h4 hw3 hS3 hb3 hcell
      go_wp2_with fail
      go_roundw
      case rel => exact ⟨k + 1, by omega, by omega, by go_num, by rw [HT.out]; exact hc4⟩
      case measure => simp [intOf]; omega
    · have hke : ¬ (k < len0 ∧ k < 200) := hlt'
      clear hlt'
      have hen : (enc (zs.take k)).length = 7 * k := by rw [enc_len]; simp; omega
      have hes : (enc (zs.take k)).length ≤ 1400 := by omega
      clear hen
      have HES := Lib.hid hes
      by_cases hx1 : k < len0
      all_goals
        go_wp2_with fail
        refine (bytes_any p S _ wr hw).mono ?_
        rintro e w2 ⟨v, rfl, hown, hb2⟩
        obtain ⟨a, cap, hv, hsl, _⟩ := sl_of_own hown
        rw [hv]
        clear hown hv
        go_wp2_with fail
        refine (new_any a _ cap _ w2 hsl (by omega)).mono ?_
        rintro e w3 ⟨p2, S2, rfl, hr, hp2, hS2, hb3⟩
        have hbw3 : Below w.heap.size w w3 := (hbel.trans (hb2.mono hbel.size)).trans (hb3.mono (Nat.le_trans hbel.size hb2.size))
        have hp2w : w.heap.size ≤ p2 := Nat.le_trans (Nat.le_trans hbel.size hb2.size) hp2
        go_wp2_with fail
        clear hw hS hbel hsl hb2 hb3 hp2 hS2
        go_loopw [6] (fun i wr => ∃ j : Nat, j ≤ k ∧ i = .int .i64 j ∧ Rd wr p2 S2 (enc ((zs.take k).drop j)) ∧ Below w.heap.size w wr) (fun i _ => k - (intOf i).toNat)
        case atStart => exact ⟨0, Nat.zero_le _, rfl, hr, hbw3⟩
        case round =>
          clear hr hbw3
          obtain ⟨j, hj, rfl, hr, hbr⟩ := hrel
          by_cases hjk : j < k
          · have hj1 : j < len0 := by omega
            have hj2 : j < 200 := by omega
            obtain ⟨b, off, rfl⟩ : ∃ b off, a0 = some ⟨b, off, none⟩ := by
              rcases hshape with h | h
              · exact h
              · omega
            have hcell0 := HC2.out b off rfl j hj1
            have hx := getD_bd (fun x => 0 ≤ x ∧ x ≤ 4294967295) (by omega) HB.out j
            have HD : (zs.take k).drop j = zs.getD j 0 :: (zs.take k).drop (j + 1) := by
              rw [List.drop_eq_getElem_cons (by simp; omega)]
              congr 1
              simp [List.getD, show j < zs.length by omega]
            rw [HD, enc_cons] at hr
            have hrb : ∀ y ∈ enc ((zs.take k).drop (j + 1)), 0 ≤ y ∧ y ≤ 255 := enc_bd _ (fun x hx => HB.out x (List.mem_of_mem_take (List.mem_of_mem_drop hx)))
            clear HD
            have HRB := Lib.hid hrb
            clear hrb
            generalize zs.getD j 0 = x at *
            generalize hE : enc ((zs.take k).drop (j + 1)) = E at *
            have HEQ := Lib.hid hE
            clear hE
            have hbj : b < w.heap.size := World.block_lt_of_cell? w _ hcell0
            go_wp2_with fail
            refine (rfour_some p2 S2 _ _ hr (bd_app (bd_enc1 x hx) HRB.out) (by simp [enc1])).mono ?_
            rintro e w4 ⟨rfl, hr4, hk4⟩
            rw [dec4 x E hx]
            rw [dec4d] at hr4
            have hb4 : Below w.heap.size w w4 := hbr.trans (hk4.below (by simp; exact hp2w) hbr.size)
            clear hr hbr hk4
            go_wp2_with fail
            refine (rtwo_some p2 S2 _ _ hr4 (bd_app (bd_two x hx) (bd_app (bd_one x) HRB.out)) (by simp)).mono ?_
            rintro e w5 ⟨rfl, hr5, hk5⟩
            simp only [dec2 x _ hx]
            rw [dec2d] at hr5
            have hb5 : Below w.heap.size w w5 := hb4.trans (hk5.below (by simp; exact hp2w) hb4.size)
            clear hr4 hb4 hk5
            go_wp2_with fail
            refine (rone_some p2 S2 _ _ hr5 (bd_app (bd_one x) HRB.out) (by simp)).mono ?_
            rintro e w6 ⟨rfl, hr6, hk6⟩
            simp only [dec1 x _ hx]
            rw [dec1d] at hr6
            have hb6 : Below w.heap.size w w6 := hb5.trans (hk6.below (by simp; exact hp2w) hb5.size)
            clear hr5 hb5 hk6
            have hcell : w6.cell? ⟨b, off + j, none⟩ = some (.int .u32 x) := (hb6.cell (p := ⟨b, off + j, none⟩) hbj).trans hcell0
            clear hcell0
            go_wp2_with fail
            go_roundw
            case rel => exact ⟨j + 1, by omega, by go_num, by rw [HEQ.out]; exact hr6, hb6⟩
            case measure => simp [intOf]; omega
          · obtain rfl : j = k := by omega
            have he : enc ((zs.take j).drop j) = [] := by rw [List.drop_eq_nil_of_le (by simp; omega)]; rfl
            rw [he] at hr
            clear he
            go_wp2_with fail
            refine (left_any p2 S2 [] _ hr).mono ?_
            rintro e w' ⟨rfl, rfl⟩
            go_wp2_with fail
            refine (known_any _).mono ?_
            rintro e w7 ⟨rfl, hb7⟩
            go_wp2_with fail
            go_ret
            exact ⟨rfl, hbr.trans (hb7.mono hbr.size)⟩
end Go.Proofs.Ythkgdeehehjpmaa.oc
