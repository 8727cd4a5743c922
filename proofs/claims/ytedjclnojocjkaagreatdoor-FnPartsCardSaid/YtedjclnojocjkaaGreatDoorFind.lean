/-
  Where a digest stands in a slice of parts: the model and the program.
  Conditions: the parts lie in memory.
-/
import Derived.Test.YtedjclnojocjkaaGreatDoorPtsTo
import Derived.Test.YtedjclnojocjkaaGreatDoorLays
namespace Go.Proofs.YtedjclnojocjkaaGreatDoor.Parts
open Go Go.RowKit Go.Proofs.YtedjclnojocjkaaGreatDoor.Mem Go.Proofs.YtedjclnojocjkaaGreatDoor.Adr Go.Proofs.YtedjclnojocjkaaGreatDoor.Res

/-- The place of the first part that has this digest. -/
def fnd (d : Int) : List Prt → Nat
  | [] => 0
  | P :: l => if P.d = d then 0 else fnd d l + 1
def found (d : Int) (l : List Prt) : Int := if fnd d l < l.length then (fnd d l : Int) else -1
theorem fnd_le (d : Int) : ∀ l, fnd d l ≤ l.length
  | [] => Nat.le_refl _
  | P :: l => by
    simp only [fnd]
    split
    · omega
    · have := fnd_le d l
      simp; omega
theorem fnd_eq (d : Int) : ∀ l, fnd d l < l.length → (pt l (fnd d l)).d = d
  | [], h => by simp at h
  | P :: l, h => by
    by_cases hP : P.d = d
    · simp [fnd, hP, pt]
    · have e : fnd d (P :: l) = fnd d l + 1 := by simp [fnd, hP]
      have := fnd_eq d l (by rw [e] at h; simpa using h)
      rw [e]
      simpa [pt] using this
theorem fnd_at (d : Int) : ∀ (l : List Prt) (j : Nat), j ≤ l.length → (∀ i, i < j → (pt l i).d ≠ d) → (j < l.length → (pt l j).d = d) → fnd d l = j
  | [], j, h, _, _ => by simp at h; simp [fnd, h]
  | P :: l, 0, _, _, h => by simp [fnd, show P.d = d by simpa [pt] using h (by simp)]
  | P :: l, j + 1, h, h1, h2 => by
    have h0 : ¬ P.d = d := by simpa [pt] using h1 0 (by omega)
    have := fnd_at d l j (by simpa using h) (fun i hi => by simpa [pt] using h1 (i + 1) (by omega)) (fun hj => by simpa [pt] using h2 (by simpa using hj))
    simp [fnd, h0, this]
theorem fnd_ne (d : Int) : ∀ (l : List Prt) (i : Nat), i < fnd d l → (pt l i).d ≠ d
  | [], i, h => by simp [fnd] at h
  | P :: l, i, h => by
    by_cases hP : P.d = d
    · simp [fnd, hP] at h
    · cases i with
      | zero => simpa [pt] using hP
      | succ i =>
        have := fnd_ne d l i (by simp [fnd, hP] at h; exact h)
        simpa [pt] using this

@[irreducible] def Misses (d : Int) (l : List Prt) (j : Nat) : Prop := ∀ i, i < j → (pt l i).d ≠ d
theorem Misses.zero (d : Int) (l : List Prt) : Misses d l 0 := by unfold Misses; exact fun i h => absurd h (by omega)
theorem Misses.next {d : Int} {l : List Prt} {j : Nat} (h : Misses d l j) (hj : (pt l j).d ≠ d) : Misses d l (j + 1) := by
  unfold Misses at *
  intro i hi
  by_cases he : i = j
  · subst he; exact hj
  · exact h i (by omega)
theorem Misses.hit {d : Int} {l : List Prt} {j : Nat} (h : Misses d l j) (hj : j < l.length) (he : (pt l j).d = d) : found d l = (j : Int) := by
  unfold Misses at h
  have := fnd_at d l j (by omega) h (fun _ => he)
  unfold found
  rw [this, if_pos hj]
theorem Misses.end {d : Int} {l : List Prt} {j : Nat} (h : Misses d l j) (hj : j = l.length) : found d l = -1 := by
  unfold Misses at h
  have := fnd_at d l j (by omega) h (fun h => absurd h (by omega))
  unfold found
  rw [this, if_neg (by omega)]

set_option maxHeartbeats 800000 in
set_option maxRecDepth 100000 in
theorem find_spec (lo hi : Nat) (w : World) (a : Option Addr) (n c : Nat) (l : List Prt) (hr : PRow lo hi w a n l) (d : Int) (hn : n ≤ 1099511627776) :
    Calls Tryz.prog 45 #[.slice a n c, .int .i64 d] w fun e w' => e = .returned (.int .i64 (found d l)) ∧ w' = w := by
  obtain ⟨r, hr0⟩ : ∃ r, found d l = r := ⟨_, rfl⟩
  have HL := Lib.hid hr.len
  rw [hr0]
  have HR := Lib.hid hr0
  clear hr0
  go_enter Tryz.func45, Tryz.ntmps45
  go_wp2
  go_loopw [5] (fun i wr => ∃ j : Nat, j ≤ n ∧ i = .int .i64 j ∧ Misses d l j ∧ wr = w) (fun i _ => n - (intOf i).toNat)
  case atStart => exact ⟨0, Nat.zero_le _, rfl, Misses.zero _ _, rfl⟩
  case round =>
    obtain ⟨j, hj, rfl, hm, rfl⟩ := hrel
    by_cases hlt : j < n
    · obtain ⟨b, off, A, cc, rfl, _, _, hc, _, _⟩ := hr.at hlt
      have c0 := hc.c0
      by_cases he : (pt l j).d = d
      · have hd : decide ((pt l j).d = d) = true := by simp [he]
        have HE := Lib.hid (hm.hit (by have := HL.out; omega) he)
        clear hc
        go_wp2
        go_ret
        refine ⟨?_, rfl⟩
        rw [← HR.out, HE.out]
        rfl
      · have hd : decide ((pt l j).d = d) = false := by simp [he]
        have hd2 : ((pt l j).d == d) = false := by simp [he]
        have hm' := hm.next he
        clear hc
        go_wp2
        go_roundw
        case rel => exact ⟨j + 1, by omega, by go_num, hm', trivial⟩
        case measure => simp [intOf]; omega
    · have hd : decide ((j : Int) < (n : Int)) = false := by simp; omega
      have HE := Lib.hid (hm.end (by have := HL.out; omega))
      go_wp2
      go_ret
      refine ⟨?_, rfl⟩
      rw [← HR.out, HE.out]
      rfl

set_option maxHeartbeats 800000 in
set_option maxRecDepth 100000 in
theorem tells_impl (d k h p q u : Int) (a : Option Addr) (n c B : Nat) (d' : Int) (w : World) (hc : w.cell? ⟨B, 0, none⟩ = some (.int .i64 d')) :
    Calls Tryz.prog 43 #[(Value.agg #[Value.int IntKind.i64 (d), Value.int IntKind.i64 (k), Value.slice (a) (n) (c), Value.int IntKind.i64 (h), Value.int IntKind.i64 (p), Value.int IntKind.i64 (q), Value.int IntKind.i64 (u)]), .pointer (some ⟨B, 0, none⟩)] w fun e w' => e = .returned (.bool (decide (d = d'))) ∧ Below w.heap.size w w' := by
  obtain ⟨O1, hO1⟩ : ∃ O, O = Obj.cells #[Value.int .i64 d, .int .i64 k, .slice a n c, .int .i64 h, .int .i64 p, .int .i64 q, .int .i64 u] 62 (0, 0) := ⟨_, rfl⟩
  have hB1 : Below w.heap.size w (w.alloc O1) := by repeat' (first | exact Below.refl _ _ | assumption | refine Below.setCell ?_ ?_ _ | refine Below.alloc ?_ ?_ _ | refine Adr.below_drewN ?_ _ | refine Below.drew ?_ | exact Nat.le_refl _ | omega | (dsimp only; omega) | refine Adr.le_alloc ?_ | refine Adr.le_set ?_ | refine Adr.le_drewN ?_ | refine Adr.le_drew ?_)
  have qA : Sept 62 w.heap.size (.int .i64 d) (.int .i64 k) (.slice a n c) (.int .i64 h) (.int .i64 p) (.int .i64 q) (.int .i64 u) (w.alloc O1) := by rw [hO1]; exact Sept.new _ _ _ _ _ _ _ _ w
  have hc1 : (w.alloc O1).cell? ⟨B, 0, none⟩ = some (.int .i64 d') := (Mem.cell_of_heap (hB1.block _ (Mem.cell_lt hc))).trans hc
  have hlt := Mem.cell_lt hc
  subst hO1
  obtain ⟨a0, a1, a2, a3, a4, a5, a6⟩ := qA.cells
  go_enter Tryz.func43, Tryz.ntmps43
  go_wp2
  go_ret
  exact ⟨by first | rfl | (simp [BEq.beq]), hB1⟩

set_option maxHeartbeats 800000 in
set_option maxRecDepth 100000 in
theorem find_impl (lo hi : Nat) (w : World) (a : Option Addr) (n c B : Nat) (l : List Prt) (hr : PRow lo hi w a n l) (hh : hi ≤ w.heap.size) (d : Int) (hn : n ≤ 1099511627776) (hc : w.cell? ⟨B, 0, none⟩ = some (.int .i64 d)) :
    Calls Tryz.prog 42 #[.slice a n c, .func (.func 43) #[] #[.pointer (some ⟨B, 0, none⟩)]] w fun e w' => e = .returned (.int .i64 (found d l)) ∧ Below w.heap.size w w' := by
  obtain ⟨r, hr0⟩ : ∃ r, found d l = r := ⟨_, rfl⟩
  have HL := Lib.hid hr.len
  rw [hr0]
  have HR := Lib.hid hr0
  clear hr0
  have hBlt := Mem.cell_lt hc
  go_enter Tryz.func42, Tryz.ntmps42
  go_wp2
  go_loopw [8] (fun i wr => ∃ j : Nat, j ≤ n ∧ i = .int .i64 j ∧ Misses d l j ∧ Below w.heap.size w wr) (fun i _ => n - (intOf i).toNat)
  case atStart => exact ⟨0, Nat.zero_le _, rfl, Misses.zero _ _, Below.refl _ _⟩
  case round =>
    obtain ⟨j, hj, rfl, hm, hb⟩ := hrel
    by_cases hlt : j < n
    · obtain ⟨b, off, A, cc, rfl, _, _, q, _, _⟩ := (hr.under hb hh).at hlt
      have hT := tells_impl (pt l j).d (pt l j).k (pt l j).h (pt l j).p (pt l j).q (pt l j).u A (pt l j).zs.length cc B d wr ((Mem.cell_of_heap (hb.block _ hBlt)).trans hc)
      obtain ⟨c0, c1, c2, c3, c4, c5, c6⟩ := q
      by_cases he : (pt l j).d = d
      · rw [show decide ((pt l j).d = d) = true by simp [he]] at hT
        have HE := Lib.hid (hm.hit (by have := HL.out; omega) he)
        clear he
        go_wp2_with fail
        go_at_call 43
        refine hT.mono ?_
        rintro e w1 ⟨rfl, hb1⟩
        have hb2 := hb.trans (hb1.mono hb.size)
        go_wp2
        go_ret
        refine ⟨?_, hb2⟩
        rw [← HR.out, HE.out]
        rfl
      · rw [show decide ((pt l j).d = d) = false by simp [he]] at hT
        have hm' := hm.next he
        clear he
        go_wp2_with fail
        go_at_call 43
        refine hT.mono ?_
        rintro e w1 ⟨rfl, hb1⟩
        have hb2 := hb.trans (hb1.mono hb.size)
        go_wp2
        go_roundw
        case rel => exact ⟨j + 1, by omega, by go_num, hm', hb2⟩
        case measure => simp [intOf]; omega
    · have hd : decide ((j : Int) < (n : Int)) = false := by simp; omega
      have HE := Lib.hid (hm.end (by have := HL.out; omega))
      go_wp2
      go_ret
      refine ⟨?_, hb⟩
      rw [← HR.out, HE.out]
      rfl
end Go.Proofs.YtedjclnojocjkaaGreatDoor.Parts
