/-
  Sums of words that go round, as plain numbers. Imports nothing of the program.
-/
import Derived.Test.YtdfenlagokndkaaAid
namespace Go.Proofs.Ytdfenlagokndkaa.sm
set_option linter.unusedVariables false

/-- the number from 0 to 65535 that goes round as n does (0 just if n is 0) -/
def cs (n : Int) : Int := if n = 0 then 0 else (n - 1) % 65535 + 1
theorem cs_bd (n : Int) : 0 ≤ cs n ∧ cs n ≤ 65535 := by unfold cs; split <;> omega
theorem cs_small (n : Int) (h0 : 0 ≤ n) (h1 : n ≤ 65535) : cs n = n := by unfold cs; split <;> omega
theorem cs_add (n m : Int) (hn : 0 ≤ n) (hm : 0 ≤ m) : cs (cs n + m) = cs (n + m) := by unfold cs; (repeat' split) <;> omega
theorem cs_add2 (n m : Int) (hn : 0 ≤ n) (hm : 0 ≤ m) : cs (n + cs m) = cs (n + m) := by unfold cs; (repeat' split) <;> omega
theorem cs_fold (n : Int) (h0 : 0 ≤ n) (h1 : n ≤ 131070) : n / 65536 + n % 65536 = cs n := by unfold cs; split <;> omega
theorem cs_turn (n : Int) (h : 0 ≤ n) : cs (n % 65536 + n / 65536) = cs n := by unfold cs; (repeat' split) <;> omega
theorem cs_mod (n m : Int) (hn : 0 ≤ n) (hm : 0 ≤ m) (h : cs n = cs m) : n % 65535 = m % 65535 := by unfold cs at h; (repeat' split at h) <;> omega
theorem cs_mod' (n : Int) (hn : 0 ≤ n) : cs n % 65535 = n % 65535 := by unfold cs; split <;> omega

/-- the words of bytes, added -/
def tot : List Int → Int
  | [] => 0
  | [a] => a * 256
  | a :: b :: r => a * 256 + b + tot r
/-- all words; the whole ones alone -/
def wds : List Int → List Int
  | [] => []
  | [a] => [a * 256]
  | a :: b :: r => (a * 256 + b) :: wds r
def wfs : List Int → List Int
  | [] => []
  | [_] => []
  | a :: b :: r => (a * 256 + b) :: wfs r

theorem tot_sum : ∀ l : List Int, (wds l).sum = tot l
  | [] => rfl
  | [a] => by simp [wds, tot]
  | a :: b :: r => by simp [wds, tot, tot_sum r]
theorem tot_snoc : ∀ (l : List Int) (x : Int), tot (l ++ [x]) = tot l + if l.length % 2 = 0 then x * 256 else x
  | [], x => by simp [tot]
  | [a], x => by simp [tot]
  | a :: b :: r, x => by
    have h := tot_snoc r x
    simp only [List.cons_append, tot, List.length_cons, h]
    by_cases hr : r.length % 2 = 0
    · rw [if_pos hr, if_pos (by omega)]; omega
    · rw [if_neg hr, if_neg (by omega)]; omega
theorem tot_app : ∀ (l r : List Int), l.length % 2 = 0 → tot (l ++ r) = tot l + tot r
  | [], r, _ => by simp [tot]
  | [a], r, h => by simp at h
  | a :: b :: l, r, h => by
    have := tot_app l r (by simp at h; omega)
    simp only [List.cons_append, tot, this]; omega
theorem tot_pos : ∀ l : List Int, (∀ x ∈ l, 0 ≤ x ∧ x ≤ 255) → 0 ≤ tot l
  | [], _ => by simp [tot]
  | [a], h => by have := h a (by simp); simp only [tot]; omega
  | a :: b :: r, h => by
    have h1 := h a (by simp)
    have h2 := h b (by simp)
    have h3 := tot_pos r (fun x hx => h x (by simp [hx]))
    simp only [tot]; omega
theorem tot_set : ∀ (l : List Int) (k : Nat) (x y : Int), 2 * k + 1 < l.length →
    tot ((l.set (2 * k) x).set (2 * k + 1) y) = tot l - (l.getD (2 * k) 0 * 256 + l.getD (2 * k + 1) 0) + (x * 256 + y)
  | [], k, x, y, h => by simp at h
  | [a], k, x, y, h => by simp at h
  | a :: b :: r, 0, x, y, h => by simp [tot]; omega
  | a :: b :: r, k + 1, x, y, h => by
    have := tot_set r k x y (by simp at h; omega)
    have e1 : 2 * (k + 1) = 2 * k + 1 + 1 := by omega
    have e2 : 2 * (k + 1) + 1 = 2 * k + 1 + 1 + 1 := by omega
    rw [e2, e1]
    simp only [List.set_cons_succ, tot, List.getD_cons_succ, this]; omega

theorem wds_len : ∀ l : List Int, (wds l).length = (l.length + 1) / 2
  | [] => rfl
  | [a] => by simp [wds]
  | a :: b :: r => by simp [wds, wds_len r]; omega
theorem wfs_len : ∀ l : List Int, (wfs l).length = l.length / 2
  | [] => rfl
  | [a] => by simp [wfs]
  | a :: b :: r => by simp [wfs, wfs_len r]; omega
theorem wfs_even : ∀ (l : List Int), l.length % 2 = 0 → wfs l = wds l
  | [], _ => rfl
  | [a], h => by simp at h
  | a :: b :: r, h => by simp [wfs, wds, wfs_even r (by simp at h; omega)]
theorem wfs_odd : ∀ (l : List Int), l.length % 2 = 1 → wfs l ++ [l.getLastD 0 * 256] = wds l
  | [], h => by simp at h
  | [a], _ => by simp [wfs, wds]
  | a :: b :: r, h => by
    have := wfs_odd r (by simp at h; omega)
    cases r with
    | nil => simp at h
    | cons c r => simpa [wfs, wds] using this
theorem wfs_snoc0 : ∀ (l : List Int) (x : Int), l.length % 2 = 0 → wfs (l ++ [x]) = wfs l
  | [], x, _ => rfl
  | [a], x, h => by simp at h
  | a :: b :: r, x, h => by simp [wfs, wfs_snoc0 r x (by simp at h; omega)]
theorem wfs_snoc1 : ∀ (l : List Int) (x : Int), l.length % 2 = 1 → wfs (l ++ [x]) = wfs l ++ [l.getLastD 0 * 256 + x]
  | [], x, h => by simp at h
  | [a], x, _ => by simp [wfs]
  | a :: b :: r, x, h => by
    have := wfs_snoc1 r x (by simp at h; omega)
    cases r with
    | nil => simp at h
    | cons c r => simpa [wfs] using this
theorem wfs_pre : ∀ (l r : List Int), wfs l <+: wds (l ++ r)
  | [], r => List.nil_prefix
  | [a], r => List.nil_prefix
  | a :: b :: l, r => by
    simp only [wfs, List.cons_append, wds]
    exact (List.prefix_cons_inj _).2 (wfs_pre l r)
theorem wds_bd : ∀ l : List Int, (∀ x ∈ l, 0 ≤ x ∧ x ≤ 255) → ∀ y ∈ wds l, 0 ≤ y ∧ y ≤ 65535
  | [], _, y, hy => by simp [wds] at hy
  | [a], h, y, hy => by have := h a (by simp); simp [wds] at hy; omega
  | a :: b :: r, h, y, hy => by
    have h1 := h a (by simp)
    have h2 := h b (by simp)
    rcases List.mem_cons.1 hy with rfl | hy
    · omega
    · exact wds_bd r (fun x hx => h x (by simp [hx])) y hy

/-- what is added up word by word -/
def acc (l : List Int) : Int := l.foldl (fun s x => cs (s + x)) 0
theorem acc_snoc (l : List Int) (x : Int) : acc (l ++ [x]) = cs (acc l + x) := by simp [acc]
theorem acc_bd (l : List Int) : 0 ≤ acc l ∧ acc l ≤ 65535 := by
  rcases List.eq_nil_or_concat l with rfl | ⟨l, x, rfl⟩
  · simp [acc]
  · rw [List.concat_eq_append, acc_snoc]; exact cs_bd _
theorem fold_cs : ∀ (l : List Int) (s : Int), 0 ≤ s → (∀ x ∈ l, 0 ≤ x) → l.foldl (fun s x => cs (s + x)) (cs s) = cs (s + l.sum)
  | [], s, _, _ => by simp
  | x :: l, s, hs, h => by
    have hx := h x (by simp)
    have := fold_cs l (s + x) (by omega) (fun y hy => h y (by simp [hy]))
    simp only [List.foldl_cons, cs_add s x hs hx, this, List.sum_cons]
    congr 1; omega
theorem acc_sum (l : List Int) (h : ∀ x ∈ l, 0 ≤ x) : acc l = cs l.sum := by
  have := fold_cs l 0 (by omega) h
  simpa [acc, cs_small 0 (by omega) (by omega)] using this
/-- the sum of bytes -/
def sumB (l : List Int) : Int := cs (tot l)
theorem acc_wds (l : List Int) (h : ∀ x ∈ l, 0 ≤ x ∧ x ≤ 255) : acc (wds l) = sumB l := by
  rw [acc_sum _ (fun x hx => (wds_bd l h x hx).1), tot_sum]; rfl
theorem sumB_bd (l : List Int) : 0 ≤ sumB l ∧ sumB l ≤ 65535 := cs_bd _
end Go.Proofs.Ytdfenlagokndkaa.sm
