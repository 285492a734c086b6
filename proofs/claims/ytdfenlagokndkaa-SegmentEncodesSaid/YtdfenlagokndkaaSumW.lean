/-
  Contracts of package sum, and of the reference of layer 3: what does not go through bytes.
-/
import Derived.Test.YtdfenlagokndkaaProg
import Derived.Test.YtdfenlagokndkaaMem
import Derived.Test.YtdfenlagokndkaaSumX
namespace Go.Proofs.Ytdfenlagokndkaa.sm
open Go.RowKit aid mem
set_option linter.unusedVariables false

theorem not16 (n : Int) (h : 0 ≤ n ∧ n ≤ 65535) : bits .xor .u16 IntKind.u16.max n = 65535 - n := by
  obtain ⟨k, rfl⟩ := Int.eq_ofNat_of_zero_le h.1
  have hm : BitVec.ofInt 16 65535 = BitVec.allOnes 16 := by decide
  have hk : (BitVec.ofInt 16 (k : Int)).toNat = k := by
    rw [BitVec.ofInt_natCast, BitVec.toNat_ofNat]
    exact Nat.mod_eq_of_lt (by omega)
  have e : bits .xor .u16 IntKind.u16.max (k : Int) = IntKind.u16.wrap ((BitVec.ofInt 16 65535 ^^^ BitVec.ofInt 16 (k : Int)).toNat : Int) := rfl
  rw [e, hm, BitVec.allOnes_xor, BitVec.toNat_not, hk, IntKind.wrap_u16]
  omega

theorem tk_snoc {α : Type} (zs : List α) (d : α) (k : Nat) (h : k < zs.length) : zs.take (k + 1) = zs.take k ++ [zs.getD k d] := by
  rw [List.take_succ_eq_append_getElem h]
  simp only [List.getD, List.getElem?_eq_getElem h, Option.getD_some]

theorem add_any (a b : Int) (w : World) (ha : 0 ≤ a ∧ a ≤ 65535) (hb : 0 ≤ b ∧ b ≤ 65535) :
    Calls Try.prog 102 #[.int .u16 a, .int .u16 b] w fun e w' => e = .returned (.int .u16 (cs (a + b))) ∧ w = w' := by
  have h := cs_fold (a + b) (by omega) (by omega)
  have hbd := cs_bd (a + b)
  have H := Lib.hid h
  have HB := Lib.hid hbd
  clear h hbd
  go_enter Try.func102, Try.ntmps102
  go_wp2
  go_ret
  refine ⟨ret_i ?_, rfl⟩
  have := H.out
  have := HB.out
  rw [IntKind.wrap_u16, IntKind.wrap_u16]
  omega

/-- what two words of whatever numbers become -/
def addW (a b : Int) : Int := IntKind.u16.wrap ((a + b) % 4294967296 / 65536 + IntKind.u16.wrap ((a + b) % 4294967296))
theorem addW_in (a b : Int) (ha : 0 ≤ a ∧ a ≤ 65535) (hb : 0 ≤ b ∧ b ≤ 65535) : addW a b = cs (a + b) := by
  have h := cs_fold (a + b) (by omega) (by omega)
  have hbd := cs_bd (a + b)
  unfold addW
  rw [IntKind.wrap_u16, IntKind.wrap_u16]
  omega
theorem add_raw (a b : Int) (w : World) :
    Calls Try.prog 102 #[.int .u16 a, .int .u16 b] w fun e w' => e = .returned (.int .u16 (addW a b)) ∧ w = w' := by
  go_enter Try.func102, Try.ntmps102
  go_wp2
  go_ret
  refine ⟨ret_i ?_, rfl⟩
  rfl

def accW (l : List Int) : Int := l.foldl addW 0
theorem accW_snoc (l : List Int) (x : Int) : accW (l ++ [x]) = addW (accW l) x := by simp [accW]
theorem foldW : ∀ (l : List Int) (s : Int), 0 ≤ s ∧ s ≤ 65535 → (∀ x ∈ l, 0 ≤ x ∧ x ≤ 65535) → l.foldl addW s = l.foldl (fun s x => cs (s + x)) s
  | [], s, _, _ => rfl
  | x :: l, s, hs, h => by
    simp only [List.foldl_cons]
    rw [addW_in s x hs (h x (by simp))]
    exact foldW l _ (cs_bd _) (fun y hy => h y (by simp [hy]))
theorem accW_wds (l : List Int) (h : ∀ x ∈ l, 0 ≤ x ∧ x ≤ 255) : accW (wds l) = sumB l := by
  rw [← acc_wds l h]
  exact foldW _ 0 (by omega) (wds_bd l h)

theorem fold_any (n : Int) (w : World) (h : 0 ≤ n ∧ n ≤ 4611686018427387904) :
    Calls Try.prog 79 #[.int .i64 n] w fun e w' => e = .returned (.int .i64 (cs n)) ∧ w = w' := by
  go_enter Try.func79, Try.ntmps79
  go_wp2
  go_loop [0] (fun v => ∃ m : Int, v = .int .i64 m ∧ 0 ≤ m ∧ m ≤ 4611686018427387904 ∧ cs m = cs n) (fun v => (intOf v).toNat)
  case atStart => exact ⟨n, rfl, h.1, h.2, rfl⟩
  case round =>
    obtain ⟨m, rfl, h0, h1, hc⟩ := hrel
    have hs := cs_small m h0
    have ht := cs_turn m h0
    have HC := Lib.hid hc
    have HS := Lib.hid hs
    have HT := Lib.hid ht
    clear hc hs ht
    by_cases hlt : 65535 < m
    · go_wp2
      go_round
      case rel => exact ⟨m % 65536 + m / 65536, rfl, by omega, by omega, by rw [HT.out, HC.out]⟩
      case measure => simp [intOf]; omega
    · go_wp2
      go_ret
      exact ⟨ret_i (by rw [← HC.out, HS.out (by omega)]), rfl⟩

/-! ### The words of many lists -/
/-- bytes, in a block below n₀ -/
structure BytesB (n₀ : Nat) (w : World) (x : Option Addr) (m : Nat) (l : List Int) : Prop where
  len : l.length = m
  most : m ≤ maxLen
  cells : 0 < m → ∃ b off, x = some ⟨b, off, none⟩ ∧ b < n₀ ∧ ∀ i, i < m → w.cell? ⟨b, off + i, none⟩ = some (.int .u8 (l.getD i 0))
/-- a slice of slices of bytes, in blocks below n₀ -/
structure RowsA (n₀ : Nat) (w : World) (a : Option Addr) (n : Nat) (ls : List (List Int)) : Prop where
  len : ls.length = n
  most : n ≤ maxLen
  cells : 0 < n → ∃ b off, a = some ⟨b, off, none⟩ ∧ b < n₀ ∧ ∀ i, i < n → ∃ x m c, w.cell? ⟨b, off + i, none⟩ = some (.slice x m c) ∧ BytesB n₀ w x m (ls.getD i [])

theorem BytesB.later {n₀ : Nat} {w w' : World} {x : Option Addr} {m : Nat} {l : List Int} (h : BytesB n₀ w x m l) (hb : Below n₀ w w') : BytesB n₀ w' x m l :=
  ⟨h.len, h.most, fun h0 => by
    obtain ⟨b, off, rfl, hlt, hc⟩ := h.cells h0
    exact ⟨b, off, rfl, hlt, fun i hi => (hb.cell (p := ⟨b, off + i, none⟩) hlt).trans (hc i hi)⟩⟩
theorem RowsA.later {n₀ : Nat} {w w' : World} {a : Option Addr} {n : Nat} {ls : List (List Int)} (h : RowsA n₀ w a n ls) (hb : Below n₀ w w') : RowsA n₀ w' a n ls :=
  ⟨h.len, h.most, fun h0 => by
    obtain ⟨b, off, rfl, hlt, hc⟩ := h.cells h0
    refine ⟨b, off, rfl, hlt, fun i hi => ?_⟩
    obtain ⟨x, m, c, h1, h2⟩ := hc i hi
    exact ⟨x, m, c, (hb.cell (p := ⟨b, off + i, none⟩) hlt).trans h1, h2.later hb⟩⟩
theorem bytes_of_sl {w : World} {x : Option Addr} {m c : Nat} {l : List Int} (h : SlA .u8 w x m c l) : BytesB w.heap.size w x m l :=
  ⟨h.len, Nat.le_trans h.le h.most, fun h0 => by
    obtain ⟨b, off, rfl, hc⟩ := h.cells (by have := h.le; omega)
    exact ⟨b, off, rfl, World.block_lt_of_cell? w _ (hc 0 h0), hc⟩⟩
theorem rows_none (n₀ : Nat) (w : World) : RowsA n₀ w none 0 [] := ⟨rfl, Nat.zero_le _, fun h => by omega⟩

/-- all bytes that come ahead of byte j of list i -/
def ahead (ls : List (List Int)) (i j : Nat) : List Int := (ls.take i).flatten ++ (ls.getD i []).take j
theorem ahead_zero (ls : List (List Int)) : ahead ls 0 0 = [] := by simp [ahead]
theorem ahead_snoc (ls : List (List Int)) (i j : Nat) (hj : j < (ls.getD i []).length) : ahead ls i (j + 1) = ahead ls i j ++ [(ls.getD i []).getD j 0] := by
  unfold ahead
  rw [List.append_assoc]
  congr 1
  exact tk_snoc _ 0 j hj
theorem ahead_next (ls : List (List Int)) (i : Nat) (hi : i < ls.length) : ahead ls i (ls.getD i []).length = ahead ls (i + 1) 0 := by
  unfold ahead
  rw [tk_snoc ls [] i hi, List.flatten_append, List.take_of_length_le (Nat.le_refl _)]
  simp
theorem ahead_end (ls : List (List Int)) : ahead ls ls.length 0 = ls.flatten := by simp [ahead]
theorem ahead_pre (ls : List (List Int)) (i j : Nat) : ∃ r, ls.flatten = ahead ls i j ++ r := by
  unfold ahead
  by_cases hi : i < ls.length
  · refine ⟨(ls.getD i []).drop j ++ (ls.drop (i + 1)).flatten, ?_⟩
    have h1 : ls = ls.take i ++ (ls.getD i [] :: ls.drop (i + 1)) := by
      rw [show ls.getD i [] = ls[i] from by simp [List.getD, hi], List.getElem_cons_drop, List.take_append_drop]
    conv => lhs; rw [h1]
    simp only [List.flatten_append, List.flatten_cons, List.append_assoc]
    congr 1
    rw [← List.append_assoc, List.take_append_drop]
  · refine ⟨[], ?_⟩
    rw [List.take_of_length_le (by omega)]
    simp [List.getD, List.getElem?_eq_none (Nat.le_of_not_lt hi)]
end Go.Proofs.Ytdfenlagokndkaa.sm
