/-
  Plain facts: where a text is cut at its marks, and how the pieces grow letter by letter.
  Conditions: none; nothing of the program stands here.
-/
import Derived.Test.YtoiaigmfoglcbaaDoorAddrMath
namespace Go.Proofs.YtoiaigmfoglcbaaDoor.Adr
open Go

/-- The letter at a place (0 behind the end). -/
def at_ (s : ByteArray) (j : Nat) : UInt8 := s.data.toList.getD j 0
theorem at_eq {s : ByteArray} {j : Nat} (h : j < s.size) : at_ s j = s[j] := by
  have hl : j < s.data.toList.length := by simpa using h
  unfold at_
  rw [List.getD_eq_getElem?_getD, List.getElem?_eq_getElem hl]
  simp
  rfl
theorem tag_ne {s : ByteArray} {k : Nat} (h : k < s.size) (c : UInt8) (n : Int) (hn : (c.toNat : Int) = n) (hf : at_ s k ≠ c) : ((s[k].toNat : Int) == n) = false := by
  rw [at_eq h] at hf
  subst hn
  simp only [beq_eq_false_iff_ne, ne_eq]
  intro e
  exact hf (UInt8.toNat_inj.1 (by omega))
theorem tag_eq {s : ByteArray} {k : Nat} (h : k < s.size) (c : UInt8) (n : Int) (hn : (c.toNat : Int) = n) (hf : at_ s k = c) : ((s[k].toNat : Int) == n) = true := by
  rw [at_eq h] at hf
  subst hn hf
  simp
/-- There is no letter c from place i up to place n. -/
def Free (s : ByteArray) (c : UInt8) (i n : Nat) : Prop := ∀ j, i ≤ j → j < n → at_ s j ≠ c

theorem first_of (s : ByteArray) (c : UInt8) (i : Nat) : Free s c i s.size ∨ ∃ p, i ≤ p ∧ p < s.size ∧ at_ s p = c ∧ Free s c i p := by
  by_cases h : ∃ p, i ≤ p ∧ p < s.size ∧ at_ s p = c
  · right
    obtain ⟨n, hn⟩ := h
    induction n using Nat.strongRecOn with
    | _ n ih =>
      by_cases hm : ∃ m, m < n ∧ i ≤ m ∧ m < s.size ∧ at_ s m = c
      · obtain ⟨m, h1, h2⟩ := hm; exact ih m h1 h2
      · exact ⟨n, hn.1, hn.2.1, hn.2.2, fun j h1 h2 h3 => hm ⟨j, h2, h1, by omega, h3⟩⟩
  · left; exact fun j h1 h2 h3 => h ⟨j, h1, h2, h3⟩

theorem not_mem_part {s : ByteArray} {c : UInt8} {i n : Nat} (h : Free s c i n) : c ∉ (s.data.toList.drop i).take (n - i) := by
  intro hm
  obtain ⟨k, hk, he⟩ := List.getElem_of_mem hm
  simp only [List.length_take, List.length_drop] at hk
  rw [List.getElem_take, List.getElem_drop] at he
  refine h (i + k) (by omega) (by omega) ?_
  unfold at_
  rw [List.getD_eq_getElem?_getD, List.getElem?_eq_getElem (by omega)]
  simpa using he
theorem cut_at {s : ByteArray} {p : Nat} (i : Nat) (hi : i ≤ p) (h : p < s.size) : s.data.toList.drop i = (s.data.toList.drop i).take (p - i) ++ at_ s p :: s.data.toList.drop (p + 1) := by
  have hl : p < s.data.toList.length := by simpa using h
  have e : (s.data.toList.drop i).drop (p - i) = at_ s p :: s.data.toList.drop (p + 1) := by
    rw [List.drop_drop, show i + (p - i) = p from by omega, List.drop_eq_getElem_cons hl]
    congr 1
    unfold at_
    rw [List.getD_eq_getElem?_getD, List.getElem?_eq_getElem hl]; rfl
  rw [← e, List.take_append_drop]
theorem size_list (s : ByteArray) : s.data.toList.length = s.size := by simp
theorem ext_list (s : ByteArray) (i n : Nat) : (s.extract i n).data.toList = (s.data.toList.drop i).take (n - i) := by
  rw [ByteArray.data_extract, Array.toList_extract, List.extract_eq_take_drop]
theorem take_rest {s : ByteArray} (i : Nat) : (s.data.toList.drop i).take (s.size - i) = s.data.toList.drop i := by
  rw [List.take_of_length_le]; rw [List.length_drop, size_list]; exact Nat.le_refl _

theorem pieces0 {s : ByteArray} (h : Free s 47 0 s.size) : (s.extract 0 s.size).data.toList = s.data.toList ∧ 47 ∉ s.data.toList := by
  have h1 := not_mem_part h
  rw [take_rest 0, List.drop_zero] at h1
  exact ⟨by rw [ext_list, take_rest 0, List.drop_zero], h1⟩
theorem pieces1 {s : ByteArray} {p : Nat} (hp : p < s.size) (hc : at_ s p = 47) (h : Free s 47 0 p) (h2 : Free s 63 (p + 1) s.size) :
    Sp1 s.data.toList (s.extract 0 p).data.toList (s.extract (p + 1) s.size).data.toList := by
  have h1 := not_mem_part h
  have h3 := not_mem_part h2
  rw [take_rest] at h3
  rw [ext_list, ext_list, take_rest]
  refine ⟨?_, by simpa using h1, h3⟩
  have := cut_at 0 (Nat.zero_le _) hp
  rw [hc] at this
  simpa using this
theorem pieces2 {s : ByteArray} {p q : Nat} (hp : p < s.size) (hc : at_ s p = 47) (h : Free s 47 0 p) (hpq : p + 1 ≤ q) (hq : q < s.size) (hc2 : at_ s q = 63) (h2 : Free s 63 (p + 1) q) :
    Sp2 s.data.toList (s.extract 0 p).data.toList (s.extract (p + 1) q).data.toList (s.extract (q + 1) s.size).data.toList := by
  have h1 := not_mem_part h
  have h3 := not_mem_part h2
  rw [ext_list, ext_list, ext_list, take_rest]
  refine ⟨?_, by simpa using h1, h3⟩
  have e1 := cut_at 0 (Nat.zero_le _) hp
  have e2 := cut_at (p + 1) hpq hq
  rw [hc] at e1
  rw [hc2] at e2
  rw [← e2]
  simpa using e1

/-! Letter by letter. -/
def St (l : List UInt8) (k : Nat) (x y z : List UInt8) : Prop :=
  (k = 0 ∧ x = l ∧ 47 ∉ l ∧ y = [] ∧ z = []) ∨ (k = 1 ∧ Sp1 l x y ∧ z = []) ∨ (k = 2 ∧ Sp2 l x y z)
theorem st_nil : St [] 0 [] [] [] := .inl ⟨rfl, rfl, by simp, rfl, rfl⟩
theorem st_le {l x y z : List UInt8} {k : Nat} (h : St l k x y z) : k ≤ 2 := by rcases h with ⟨h, _⟩ | ⟨h, _⟩ | ⟨h, _⟩ <;> omega
theorem st_size {l x y z : List UInt8} {k : Nat} (h : St l k x y z) : x.length + y.length + z.length + k = l.length := by
  rcases h with ⟨rfl, rfl, _, rfl, rfl⟩ | ⟨rfl, ⟨rfl, _⟩, rfl⟩ | ⟨rfl, ⟨rfl, _⟩⟩
  · simp
  · simp; omega
  · simp; omega
theorem st_one {l x y z : List UInt8} (h : St l 0 x y z) : St (l ++ [47]) 1 x y z := by
  rcases h with ⟨_, rfl, h0, rfl, rfl⟩ | ⟨h, _⟩ | ⟨h, _⟩
  · exact .inr (.inl ⟨rfl, ⟨rfl, h0, by simp⟩, rfl⟩)
  · cases h
  · cases h
theorem st_two {l x y z : List UInt8} (h : St l 1 x y z) : St (l ++ [63]) 2 x y z := by
  rcases h with ⟨h, _⟩ | ⟨_, ⟨rfl, h0, h1⟩, rfl⟩ | ⟨h, _⟩
  · cases h
  · exact .inr (.inr ⟨rfl, ⟨by simp, h0, h1⟩⟩)
  · cases h
theorem st_x {l x y z : List UInt8} {c : UInt8} (h : St l 0 x y z) (hc : c ≠ 47) : St (l ++ [c]) 0 (x ++ [c]) y z := by
  rcases h with ⟨_, rfl, h0, rfl, rfl⟩ | ⟨h, _⟩ | ⟨h, _⟩
  · exact .inl ⟨rfl, rfl, by simp [h0, Ne.symm hc], rfl, rfl⟩
  · cases h
  · cases h
theorem st_y {l x y z : List UInt8} {c : UInt8} (h : St l 1 x y z) (hc : c ≠ 63) : St (l ++ [c]) 1 x (y ++ [c]) z := by
  rcases h with ⟨h, _⟩ | ⟨_, ⟨rfl, h0, h1⟩, rfl⟩ | ⟨h, _⟩
  · cases h
  · exact .inr (.inl ⟨rfl, ⟨by simp, h0, by simp [h1, Ne.symm hc]⟩, rfl⟩)
  · cases h
theorem st_z {l x y z : List UInt8} {c : UInt8} (h : St l 2 x y z) : St (l ++ [c]) 2 x y (z ++ [c]) := by
  rcases h with ⟨h, _⟩ | ⟨h, _⟩ | ⟨_, ⟨rfl, h0, h1⟩⟩
  · cases h
  · cases h
  · exact .inr (.inr ⟨rfl, ⟨by simp, h0, h1⟩⟩)
theorem take_snoc {s : ByteArray} {i : Nat} (h : i < s.size) : s.data.toList.take (i + 1) = s.data.toList.take i ++ [at_ s i] := by
  have hl : i < s.data.toList.length := by simpa using h
  rw [List.take_add_one, List.getElem?_eq_getElem hl]
  unfold at_
  rw [List.getD_eq_getElem?_getD, List.getElem?_eq_getElem hl]; rfl
theorem ext_one {s : ByteArray} {i : Nat} (h : i < s.size) (x : ByteArray) : (x ++ s.extract i (i + 1)).data.toList = x.data.toList ++ [at_ s i] := by
  have hl : i < s.data.toList.length := by simpa using h
  rw [ByteArray.data_append, Array.toList_append, ext_list, show i + 1 - i = 1 from by omega]
  congr 1
  rw [List.drop_eq_getElem_cons hl]
  unfold at_
  rw [List.getD_eq_getElem?_getD, List.getElem?_eq_getElem hl]; rfl
theorem take_all (s : ByteArray) : s.data.toList.take s.size = s.data.toList := by rw [List.take_of_length_le]; rw [size_list]; exact Nat.le_refl _
end Go.Proofs.YtoiaigmfoglcbaaDoor.Adr
