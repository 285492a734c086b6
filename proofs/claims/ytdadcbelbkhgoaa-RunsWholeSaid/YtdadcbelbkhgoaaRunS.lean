/-
  Gaps and meets, as lists: what RunsWhole says.
-/
import Derived.Test.YtdadcbelbkhgoaaRunM
namespace Go.Proofs.Ytdadcbelbkhgoaa.rn
open Go.RowKit Go.Shelf aid mem rng sp
set_option linter.unusedVariables false
set_option linter.unusedSimpArgs false

theorem foldWo_len : ∀ (l q : List Sp), (∀ x ∈ l, ROk x) → Rn q → (l.foldl refWo q).length ≤ q.length + l.length := by
  intro l
  induction l with
  | nil => intro q _ _; simp
  | cons x l ih =>
    intro q h hq
    have hx := (h x (by simp)).ok
    have h1 := ih (refWo q x) (fun y hy => h y (List.mem_cons_of_mem _ hy)) (wo_rn hq hx)
    have h2 := wo_len q x hq hx
    simp only [List.foldl_cons, List.length_cons]
    omega
theorem gaps_len {l : List Sp} (s : Sp) (hl : Rn l) : (gapsL l s).length ≤ l.length + 1 := by
  unfold gapsL
  split
  · simp
  · rename_i h
    have hs := len_pos_ok h
    have := foldWo_len l [s] hl.ok ⟨fun x hx => by simp at hx; subst hx; exact hs, List.pairwise_singleton _ _⟩
    simp only [List.length_singleton] at this
    omega
theorem gaps_rn {l : List Sp} (s : Sp) (hl : Rn l) : Rn (gapsL l s) := by
  obtain ⟨g1, g2, _⟩ := gaps_all s hl
  rw [g2] at g1
  exact g1
theorem within_none : ∀ {l : List Sp} {s : Sp}, (∀ x ∈ l, lenI (meetP x s) = 0) → withinL l s = 0 := by
  intro l s
  induction l with
  | nil => intro _; rfl
  | cons x l ih => intro h; rw [within_cons, ih (fun y hy => h y (List.mem_cons_of_mem _ hy)), h x (by simp)]; rfl
theorem gap_out {l : List Sp} {s y : Sp} (hl : Rn l) (hy : y ∈ gapsL l s) : withinL l y = 0 := by
  have hyk := (gaps_rn s hl).ok y hy
  refine within_none (fun x hx => ?_)
  have hxk := hl.ok x hx
  rw [meet_len hxk.ok hyk.ok]
  split
  · rename_i h
    have h1 : In (gapsL l s) (max x.1 y.1) := ⟨y, hy, by omega, by omega⟩
    exact absurd ⟨x, hx, by omega, by omega⟩ (((gaps_all s hl).2.2.1 _).1 h1).2
  · rfl
/-- a set with what of others meets a span -/
def mfold (G : List Sp) (l : List Sp) (s : Sp) : List Sp := l.foldl (fun m x => refWi m (meetP x s)) G
theorem mfold_snoc (G l : List Sp) (x s : Sp) : mfold G (l ++ [x]) s = refWi (mfold G l s) (meetP x s) := by unfold mfold; rw [List.foldl_append]; rfl
theorem meet_okk {x : Sp} (hx : ROk x) (s : Sp) : Ok (meetP x s) := by
  rw [meet_fit hx]
  unfold betw
  obtain ⟨h0, h1, h2⟩ := hx
  have h3 := lenI_bd s
  rw [lenI_fit] at h3
  split
  · exact ⟨by decide, by decide, by decide⟩
  · exact ⟨by simp only; omega, by simp only; omega, by simp only; omega⟩
theorem mfold_spec {s : Sp} : ∀ (l : List Sp) {G : List Sp} (hG : Rn G), (∀ x ∈ l, ROk x) → Rn (mfold G l s) ∧ (∀ o, In (mfold G l s) o ↔ In G o ∨ In (partsL l s) o) ∧ (mfold G l s).length ≤ G.length + l.length := by
  intro l
  induction l with
  | nil => intro G hG _; exact ⟨hG, fun o => by unfold mfold partsL; simp [In.nil], by unfold mfold; simp⟩
  | cons x l ih =>
    intro G hG h
    have hx := h x (by simp)
    have hm := meet_okk hx s
    obtain ⟨i1, i2, i3⟩ := ih (wi_rn hG hm) (fun y hy => h y (List.mem_cons_of_mem _ hy))
    rw [show mfold G (x :: l) s = mfold (refWi G (meetP x s)) l s from rfl]
    refine ⟨i1, fun o => ?_, ?_⟩
    · rw [i2, parts_cons, In.append]
      by_cases h0 : lenI (meetP x s) = 0
      · rw [show refWi G (meetP x s) = G by unfold refWi; rw [if_pos h0], show ne (meetP x s) = [] by unfold ne; rw [if_pos h0]]
        simp [In.nil]
      · rw [(wi_spec hG (rok_of hm h0)).2.1, show ne (meetP x s) = [meetP x s] by unfold ne; rw [if_neg h0], In.one]
        rw [or_assoc]
    · have := wi_len G (meetP x s) hG hm
      simp only [List.length_cons]
      omega
theorem whole_eq {l : List Sp} (s : Sp) (hl : Rn l) : mfold (gapsL l s) l s = ne s := by
  obtain ⟨m1, m2, _⟩ := mfold_spec (s := s) l (gaps_rn s hl) hl.ok
  refine Rn.ext m1 (ne_rn s) (fun o => ?_)
  rw [m2, (gaps_all s hl).2.2.1, (parts_spec s hl).2.1]
  have h1 : In (ne s) o ↔ (fitP s.1 s.2).1 ≤ o ∧ o < (fitP s.1 s.2).2 := by
    unfold ne
    split
    · rename_i h
      rw [lenI_fit] at h
      exact ⟨fun h => (In.nil h).elim, fun h => by omega⟩
    · rename_i h
      rw [In.one, fit_of (len_pos_ok h).ok]
  rw [h1]
  by_cases hi : In l o <;> simp [hi]
end Go.Proofs.Ytdadcbelbkhgoaa.rn
