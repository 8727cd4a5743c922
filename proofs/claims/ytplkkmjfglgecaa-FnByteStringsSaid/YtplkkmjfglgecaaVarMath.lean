/-
  Varints as lists of numbers: the encoding, the reading of a list, and that the one undoes the other.
  Conditions: none; nothing of the program stands here.
-/
namespace Go.Proofs.Ytplkkmjfglgecaa.Var

/-- The groups of a number: seven bits each, the least significant first. -/
def uv (n : Nat) : List Int := if n < 128 then [(n : Int)] else ((n % 128 + 128 : Nat) : Int) :: uv (n / 128)
termination_by n
decreasing_by omega

theorem uv_small {n : Nat} (h : n < 128) : uv n = [(n : Int)] := by rw [uv, if_pos h]
theorem uv_great {n : Nat} (h : ¬ n < 128) : uv n = ((n % 128 + 128 : Nat) : Int) :: uv (n / 128) := by rw [uv, if_neg h]

theorem uv_len (d : Nat) : ∀ n, n < 128 ^ (d + 1) → 1 ≤ (uv n).length ∧ (uv n).length ≤ d + 1 := by
  induction d with
  | zero => intro n h; rw [uv_small (by simpa using h)]; simp
  | succ d ih =>
    intro n h
    by_cases hs : n < 128
    · rw [uv_small hs]; simp
    · rw [uv_great hs]
      have h2 : n / 128 < 128 ^ (d + 1) := by
        rw [Nat.pow_succ] at h
        exact Nat.div_lt_of_lt_mul (by rw [Nat.mul_comm]; exact h)
      have := ih _ h2
      simp; omega
theorem uv_len6 {n : Nat} (h : n ≤ 1000000000000) : 1 ≤ (uv n).length ∧ (uv n).length ≤ 6 := uv_len 5 n (by have : (1000000000000 : Nat) < 128 ^ 6 := by decide
                                                                                                            omega)
theorem uv_byte (n : Nat) : ∀ z ∈ uv n, 0 ≤ z ∧ z ≤ 255 := by
  induction n using Nat.strongRecOn with
  | _ n ih =>
    intro z hz
    by_cases hs : n < 128
    · rw [uv_small hs] at hz; simp at hz; omega
    · rw [uv_great hs] at hz
      simp only [List.mem_cons] at hz
      rcases hz with rfl | hz
      · omega
      · exact ih (n / 128) (by omega) z hz

/-- The varint that a list of bytes begins with: the number and how many bytes it takes; i groups have been read, and n is their sum. -/
def rd : Nat → Nat → Nat → List Int → Option (Nat × Nat)
  | 0, _, _, _ => none
  | _ + 1, _, _, [] => none
  | f + 1, i, n, z :: l =>
    if 128 ≤ z then rd f (i + 1) (n + z.toNat % 128 * 2 ^ (7 * i)) l
    else if 1000000000000 < n + z.toNat * 2 ^ (7 * i) ∨ (z = 0 ∧ 0 < i) then none
    else some (n + z.toNat * 2 ^ (7 * i), i + 1)
def rdv (l : List Int) : Option (Nat × Nat) := rd 6 0 0 l
end Go.Proofs.Ytplkkmjfglgecaa.Var
