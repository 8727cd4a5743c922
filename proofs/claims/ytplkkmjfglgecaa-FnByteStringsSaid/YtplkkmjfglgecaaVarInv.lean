/-
  A varint's reading undoes its writing, and the other way round.
  Conditions: none; nothing of the program stands here.
-/
import Derived.Test.YtplkkmjfglgecaaVarMath
namespace Go.Proofs.Ytplkkmjfglgecaa.Var

theorem pow_next (i : Nat) : 2 ^ (7 * (i + 1)) = 128 * 2 ^ (7 * i) := by rw [Nat.mul_add, Nat.pow_add]; omega
theorem split_128 (q N P : Nat) : N + q % 128 * P + q / 128 * (128 * P) = N + q * P := by
  have h : q * P = (q % 128 + 128 * (q / 128)) * P := by rw [Nat.mod_add_div]
  rw [h, Nat.add_mul, Nat.mul_comm 128 (q / 128), Nat.mul_assoc]; omega

theorem rd_uv (f : Nat) : ∀ (i N q : Nat) (rest : List Int), q < 128 ^ (f + 1) → N + q * 2 ^ (7 * i) ≤ 1000000000000 → (q ≠ 0 ∨ i = 0) →
    rd (f + 1) i N (uv q ++ rest) = some (N + q * 2 ^ (7 * i), i + (uv q).length) := by
  induction f with
  | zero =>
    intro i N q rest hq hb h0
    have hq' : q < 128 := by simpa using hq
    rw [uv_small hq']
    simp only [List.cons_append, List.nil_append, List.length_cons, List.length_nil]
    rw [rd, if_neg (by omega), Int.toNat_natCast, if_neg (by omega)]
  | succ f ih =>
    intro i N q rest hq hb h0
    by_cases hs : q < 128
    · rw [uv_small hs]
      simp only [List.cons_append, List.nil_append, List.length_cons, List.length_nil]
      rw [rd, if_neg (by omega), Int.toNat_natCast, if_neg (by omega)]
    · rw [uv_great hs]
      simp only [List.cons_append, List.length_cons]
      have h2 : q / 128 < 128 ^ (f + 1) := by
        rw [Nat.pow_succ] at hq
        exact Nat.div_lt_of_lt_mul (by rw [Nat.mul_comm]; exact hq)
      rw [rd, if_pos (by omega), Int.toNat_natCast, show (q % 128 + 128) % 128 = q % 128 by omega]
      have h3 := ih (i + 1) (N + q % 128 * 2 ^ (7 * i)) (q / 128) rest h2 (by rw [pow_next, split_128]; exact hb) (.inl (by omega))
      rw [h3, pow_next, split_128]
      congr 2
      omega
theorem rdv_uv (q : Nat) (rest : List Int) (h : q ≤ 1000000000000) : rdv (uv q ++ rest) = some (q, (uv q).length) := by
  have h6 : (1000000000000 : Nat) < 128 ^ (5 + 1) := by decide
  have := rd_uv 5 0 0 q rest (by omega) (by simpa using h) (.inr rfl)
  unfold rdv
  rw [this]
  simp

theorem rd_inv (f : Nat) : ∀ (i N : Nat) (l : List Int) (m j : Nat), (∀ z ∈ l, 0 ≤ z ∧ z ≤ 255) → rd f i N l = some (m, j) →
    ∃ q, m = N + q * 2 ^ (7 * i) ∧ i ≤ j ∧ l.take (j - i) = uv q ∧ (0 < i → q ≠ 0) := by
  induction f with
  | zero => intro i N l m j _ h; cases h
  | succ f ih =>
    intro i N l m j hl h
    cases l with
    | nil => cases h
    | cons z l =>
      have hz0 := hl z (by simp)
      rw [rd] at h
      by_cases hz : 128 ≤ z
      · rw [if_pos hz] at h
        obtain ⟨q, h1, h2, h3, h4⟩ := ih (i + 1) _ l m j (fun y hy => hl y (List.mem_cons_of_mem _ hy)) h
        have hq := h4 (by omega)
        have hd : (z.toNat % 128 + 128 * q) / 128 = q := by omega
        have hm : (z.toNat % 128 + 128 * q) % 128 = z.toNat % 128 := by omega
        refine ⟨z.toNat % 128 + 128 * q, ?_, by omega, ?_, fun _ => by omega⟩
        · rw [h1, pow_next, Nat.add_mul, Nat.mul_comm 128 q, Nat.mul_assoc]; omega
        · rw [show j - i = (j - (i + 1)) + 1 by omega, List.take_succ_cons, h3, uv_great (n := z.toNat % 128 + 128 * q) (by omega), hd, hm]
          congr 1
          omega
      · rw [if_neg hz] at h
        split at h
        · cases h
        · rename_i hb
          injection h with h
          injection h with h1 h2
          subst h1 h2
          refine ⟨z.toNat, rfl, by omega, ?_, fun hi hz0 => hb (.inr ⟨by omega, hi⟩)⟩
          rw [show i + 1 - i = 0 + 1 by omega, List.take_succ_cons, List.take_zero, uv_small (by omega)]
          congr 1
          omega
theorem rdv_inv {l : List Int} {m j : Nat} (hl : ∀ z ∈ l, 0 ≤ z ∧ z ≤ 255) (h : rdv l = some (m, j)) : l.take j = uv m := by
  obtain ⟨q, h1, _, h3, _⟩ := rd_inv 6 0 0 l m j hl h
  simp at h1 h3
  rw [h1]; exact h3
end Go.Proofs.Ytplkkmjfglgecaa.Var
