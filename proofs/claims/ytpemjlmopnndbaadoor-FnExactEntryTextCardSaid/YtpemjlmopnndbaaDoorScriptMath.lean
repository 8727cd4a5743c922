/-
  Scripts: which steps are valid, which ask, what a script's numbers are. Plain mathematics.
  Conditions: none; nothing of the program stands here.
-/
import Derived.Test.YtpemjlmopnndbaaDoorGOp
namespace Go.Proofs.YtpemjlmopnndbaaDoor.Scripts
open Go Go.RowKit Go.Proofs.YtpemjlmopnndbaaDoor.Mem Go.Proofs.YtpemjlmopnndbaaDoor.Gen

def inR (lo hi x : Int) : Bool := decide (lo ≤ x ∧ x ≤ hi)
theorem inR_yes {lo hi x : Int} (h0 : lo ≤ x) (h1 : x ≤ hi) : inR lo hi x = true := decide_eq_true ⟨h0, h1⟩
theorem inR_no {lo hi x : Int} (h : x < lo ∨ hi < x) : inR lo hi x = false := decide_eq_false (by omega)
theorem inR_zero (x : Int) : inR 0 0 x = (x == 0) := by
  by_cases h : x = 0
  · subst h; rfl
  · rw [inR_no (by omega)]; simp [h]
/-- The ranges of B and C by the kind. -/
def rng (k : Int) : Option (Int × Int × Int × Int) :=
  if k = 1 then some (1, 9, 0, 99) else if k = 2 ∨ k = 3 ∨ k = 4 then some (0, 0, 0, 0) else if k = 5 then some (0, 3, 0, 3)
  else if k = 6 then some (0, 3, 0, 0) else if k = 7 then some (1, 3, 0, 0) else if k = 8 ∨ k = 9 then some (0, 2, 0, 0) else none
def okK (r : Option (Int × Int × Int × Int)) (a b c : Int) : Bool :=
  match r with
  | none => false
  | some (b0, b1, c0, c1) => inR 0 3 a && (inR b0 b1 b && inR c0 c1 c)
/-- A step is valid. -/
def okO (P : TOp) : Bool := okK (rng P.f0) P.f1 P.f2 P.f3
theorem okK_no {r : Option (Int × Int × Int × Int)} {a b c : Int} (h : inR 0 3 a = false) : okK r a b c = false := by
  cases r with
  | none => rfl
  | some q => obtain ⟨x, y, z, t⟩ := q; simp [okK, h]
theorem rng_none {k : Int} (h : k < 1 ∨ 9 < k) : rng k = none := by
  unfold rng
  rw [if_neg (by omega), if_neg (by omega), if_neg (by omega), if_neg (by omega), if_neg (by omega), if_neg (by omega)]
/-- The kinds, one after the other. -/
inductive Kind : Int → Prop where
  | k1 : Kind 1
  | k2 : Kind 2
  | k3 : Kind 3
  | k4 : Kind 4
  | k5 : Kind 5
  | k6 : Kind 6
  | k7 : Kind 7
  | k8 : Kind 8
  | k9 : Kind 9
theorem kinds (k : Int) (h0 : 1 ≤ k) (h1 : k ≤ 9) : Kind k := by
  have h : k = 1 ∨ k = 2 ∨ k = 3 ∨ k = 4 ∨ k = 5 ∨ k = 6 ∨ k = 7 ∨ k = 8 ∨ k = 9 := by omega
  rcases h with rfl | rfl | rfl | rfl | rfl | rfl | rfl | rfl | rfl
  · exact .k1
  · exact .k2
  · exact .k3
  · exact .k4
  · exact .k5
  · exact .k6
  · exact .k7
  · exact .k8
  · exact .k9

/-- All of the first j are valid. -/
def AllOk (l : List TOp) (j : Nat) : Prop := ∀ i, i < j → okO (l.getD i nOp) = true
theorem AllOk.zero (l : List TOp) : AllOk l 0 := fun i h => absurd h (by omega)
theorem AllOk.next {l : List TOp} {j : Nat} (h : AllOk l j) (hj : okO (l.getD j nOp) = true) : AllOk l (j + 1) := fun i hi => by
  by_cases he : i = j
  · subst he; exact hj
  · exact h i (by omega)
def scriptB (l : List TOp) : Bool := decide (l.length ≤ 16) && l.all okO
theorem scriptB_no {l : List TOp} {j : Nat} (hj : j < l.length) (h : okO (l.getD j nOp) = false) : scriptB l = false := by
  cases hs : scriptB l with
  | false => rfl
  | true =>
    unfold scriptB at hs
    simp only [Bool.and_eq_true, List.all_eq_true] at hs
    have := hs.2 (l.getD j nOp) (by rw [List.getD_eq_getElem?_getD, List.getElem?_eq_getElem hj]; exact List.getElem_mem _)
    rw [h] at this
    cases this
theorem AllOk.end {l : List TOp} {j : Nat} (h : AllOk l j) (hj : l.length ≤ j) : scriptB l = decide (l.length ≤ 16) := by
  unfold scriptB
  rw [show l.all okO = true from List.all_eq_true.2 fun P hP => ?_, Bool.and_true]
  obtain ⟨i, hi, rfl⟩ := List.getElem_of_mem hP
  have := h i (by omega)
  rw [List.getD_eq_getElem?_getD, List.getElem?_eq_getElem hi] at this
  exact this

def asksB (k : Int) : Bool := inR 1 4 k
/-- How many of the first j ask. -/
def asksTo (l : List TOp) : Nat → Nat
  | 0 => 0
  | j + 1 => asksTo l j + (if asksB (l.getD j nOp).f0 = true then 1 else 0)
theorem asks_le (l : List TOp) : ∀ j, asksTo l j ≤ j
  | 0 => Nat.le_refl _
  | j + 1 => by have := asks_le l j; unfold asksTo; split <;> omega
/-- The numbers of the first j. -/
def numsTo (l : List TOp) : Nat → List Int
  | 0 => []
  | j + 1 => numsTo l j ++ [(l.getD j nOp).f0, (l.getD j nOp).f1, (l.getD j nOp).f2, (l.getD j nOp).f3]
theorem nums_len (l : List TOp) : ∀ j, (numsTo l j).length = 4 * j
  | 0 => rfl
  | j + 1 => by rw [numsTo, List.length_append, nums_len l j]; simp; omega

def tFetch : ByteArray := ⟨#[102, 101, 116, 99, 104]⟩
def tClock : ByteArray := ⟨#[99, 108, 111, 99, 107]⟩
def tRandom : ByteArray := ⟨#[114, 97, 110, 100, 111, 109]⟩
def tInput : ByteArray := ⟨#[105, 110, 112, 117, 116]⟩
def tAdd : ByteArray := ⟨#[97, 100, 100]⟩
def tPut : ByteArray := ⟨#[112, 117, 116]⟩
def tSkip : ByteArray := ⟨#[115, 107, 105, 112]⟩
def tGet : ByteArray := ⟨#[103, 101, 116]⟩
def tKeep : ByteArray := ⟨#[107, 101, 101, 112]⟩
def nameB (k : Int) : ByteArray := if k = 1 then tFetch else if k = 2 then tClock else if k = 3 then tRandom else if k = 4 then tInput else if k = 5 then tAdd else if k = 6 then tPut else if k = 7 then tSkip else if k = 8 then tGet else if k = 9 then tKeep else ⟨#[]⟩
theorem nameB_none {k : Int} (h : k < 1 ∨ 9 < k) : nameB k = ⟨#[]⟩ := by
  unfold nameB
  rw [if_neg (by omega), if_neg (by omega), if_neg (by omega), if_neg (by omega), if_neg (by omega), if_neg (by omega), if_neg (by omega), if_neg (by omega), if_neg (by omega)]
theorem nameB_some {k : Int} (h0 : 1 ≤ k) (h1 : k ≤ 9) : (nameB k).data.size ≠ 0 := by
  rcases kinds k h0 h1 <;> decide
end Go.Proofs.YtpemjlmopnndbaaDoor.Scripts
