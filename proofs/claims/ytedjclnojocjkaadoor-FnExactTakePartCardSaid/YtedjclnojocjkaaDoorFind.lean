/-
  Where a digest stands in a slice of parts: the model and the program.
  Conditions: the parts lie in memory.
-/
import Derived.Test.YtedjclnojocjkaaDoorPtsTo
import Derived.Test.YtedjclnojocjkaaDoorPbuf
namespace Go.Proofs.YtedjclnojocjkaaDoor.Parts
open Go Go.RowKit Go.Proofs.YtedjclnojocjkaaDoor.Mem Go.Proofs.YtedjclnojocjkaaDoor.Adr Go.Proofs.YtedjclnojocjkaaDoor.Res

/-- The place of the first part that has this digest. -/
def fnd (d : Int) : List Prt → Nat
  | [] => 0
  | P :: l => if P.d = d then 0 else fnd d l + 1
def found (d : Int) (l : List Prt) : Int := if fnd d l < l.length then (fnd d l : Int) else -1
theorem fnd_le (d : Int) : ∀ l, fnd d l ≤ l.length
  | [] => Nat.le_refl _
  | P :: l => by
    simp only [fnd]
    split
    · omega
    · have := fnd_le d l
      simp; omega
theorem fnd_eq (d : Int) : ∀ l, fnd d l < l.length → (pt l (fnd d l)).d = d
  | [], h => by simp at h
  | P :: l, h => by
    by_cases hP : P.d = d
    · simp [fnd, hP, pt]
    · have e : fnd d (P :: l) = fnd d l + 1 := by simp [fnd, hP]
      have := fnd_eq d l (by rw [e] at h; simpa using h)
      rw [e]
      simpa [pt] using this
theorem fnd_at (d : Int) : ∀ (l : List Prt) (j : Nat), j ≤ l.length → (∀ i, i < j → (pt l i).d ≠ d) → (j < l.length → (pt l j).d = d) → fnd d l = j
  | [], j, h, _, _ => by simp at h; simp [fnd, h]
  | P :: l, 0, _, _, h => by simp [fnd, show P.d = d by simpa [pt] using h (by simp)]
  | P :: l, j + 1, h, h1, h2 => by
    have h0 : ¬ P.d = d := by simpa [pt] using h1 0 (by omega)
    have := fnd_at d l j (by simpa using h) (fun i hi => by simpa [pt] using h1 (i + 1) (by omega)) (fun hj => by simpa [pt] using h2 (by simpa using hj))
    simp [fnd, h0, this]
theorem fnd_ne (d : Int) : ∀ (l : List Prt) (i : Nat), i < fnd d l → (pt l i).d ≠ d
  | [], i, h => by simp [fnd] at h
  | P :: l, i, h => by
    by_cases hP : P.d = d
    · simp [fnd, hP] at h
    · cases i with
      | zero => simpa [pt] using hP
      | succ i =>
        have := fnd_ne d l i (by simp [fnd, hP] at h; exact h)
        simpa [pt] using this

@[irreducible] def Misses (d : Int) (l : List Prt) (j : Nat) : Prop := ∀ i, i < j → (pt l i).d ≠ d
theorem Misses.zero (d : Int) (l : List Prt) : Misses d l 0 := by unfold Misses; exact fun i h => absurd h (by omega)
theorem Misses.next {d : Int} {l : List Prt} {j : Nat} (h : Misses d l j) (hj : (pt l j).d ≠ d) : Misses d l (j + 1) := by
  unfold Misses at *
  intro i hi
  by_cases he : i = j
  · subst he; exact hj
  · exact h i (by omega)
theorem Misses.hit {d : Int} {l : List Prt} {j : Nat} (h : Misses d l j) (hj : j < l.length) (he : (pt l j).d = d) : found d l = (j : Int) := by
  unfold Misses at h
  have := fnd_at d l j (by omega) h (fun _ => he)
  unfold found
  rw [this, if_pos hj]
theorem Misses.end {d : Int} {l : List Prt} {j : Nat} (h : Misses d l j) (hj : j = l.length) : found d l = -1 := by
  unfold Misses at h
  have := fnd_at d l j (by omega) h (fun h => absurd h (by omega))
  unfold found
  rw [this, if_neg (by omega)]

set_option maxHeartbeats 800000 in
set_option maxRecDepth 100000 in
theorem find_spec (lo hi : Nat) (w : World) (a : Option Addr) (n c : Nat) (l : List Prt) (hr : PRow lo hi w a n l) (d : Int) (hn : n ≤ 1099511627776) :
    Calls Tryd.prog 22 #[.slice a n c, .int .i64 d] w fun e w' => e = .returned (.int .i64 (found d l)) ∧ w' = w := by
  obtain ⟨r, hr0⟩ : ∃ r, found d l = r := ⟨_, rfl⟩
  have HL := Lib.hid hr.len
  rw [hr0]
  have HR := Lib.hid hr0
  clear hr0
  go_enter Tryd.func22, Tryd.ntmps22
  go_wp2
  go_loopw [5] (fun i wr => ∃ j : Nat, j ≤ n ∧ i = .int .i64 j ∧ Misses d l j ∧ wr = w) (fun i _ => n - (intOf i).toNat)
  case atStart => exact ⟨0, Nat.zero_le _, rfl, Misses.zero _ _, rfl⟩
  case round =>
    obtain ⟨j, hj, rfl, hm, rfl⟩ := hrel
    by_cases hlt : j < n
    · obtain ⟨b, off, A, cc, rfl, _, _, hc, _, _⟩ := hr.at hlt
      have c0 := hc.c0
      by_cases he : (pt l j).d = d
      · have hd : decide ((pt l j).d = d) = true := by simp [he]
        have HE := Lib.hid (hm.hit (by have := HL.out; omega) he)
        clear hc
        go_wp2
        go_ret
        refine ⟨?_, rfl⟩
        rw [← HR.out, HE.out]
        rfl
      · have hd : decide ((pt l j).d = d) = false := by simp [he]
        have hd2 : ((pt l j).d == d) = false := by simp [he]
        have hm' := hm.next he
        clear hc
        go_wp2
        go_roundw
        case rel => exact ⟨j + 1, by omega, by go_num, hm', trivial⟩
        case measure => simp [intOf]; omega
    · have hd : decide ((j : Int) < (n : Int)) = false := by simp; omega
      have HE := Lib.hid (hm.end (by have := HL.out; omega))
      go_wp2
      go_ret
      refine ⟨?_, rfl⟩
      rw [← HR.out, HE.out]
      rfl

end Go.Proofs.YtedjclnojocjkaaDoor.Parts
