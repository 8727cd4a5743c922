/-
  What is got of a slice of parts by a digest: the model and the program.
  Conditions: the parts lie in memory; a body has at most 2^20 numbers.
-/
import Derived.Test.YtedjclnojocjkaaGreatDoorFind
import Derived.Test.YtedjclnojocjkaaGreatDoorClone
import Derived.Test.YtedjclnojocjkaaGreatDoorCopied
namespace Go.Proofs.YtedjclnojocjkaaGreatDoor.Parts
open Go Go.RowKit Go.Proofs.YtedjclnojocjkaaGreatDoor.Mem Go.Proofs.YtedjclnojocjkaaGreatDoor.Adr Go.Proofs.YtedjclnojocjkaaGreatDoor.Res

/-- What GetPart hands back. -/
def Got (lo : Nat) (P : Prt) (b : Bool) (w : World) (e : Ending) (w' : World) : Prop :=
  ∃ a c, e = .returned (.tuple #[(Value.agg #[Value.int IntKind.i64 (P.k), Value.slice (a) (P.zs.length) (c), Value.int IntKind.i64 (P.h), Value.int IntKind.i64 (P.p), Value.int IntKind.i64 (P.q)]), .bool b]) ∧ Own .i64 lo w'.heap.size w' a P.zs.length P.zs ∧ P.zs.length ≤ c ∧ c ≤ maxLen ∧ Below lo w w'
theorem pt_end {l : List Prt} {i : Nat} (h : l.length ≤ i) : pt l i = noPrt := by simp [pt, List.getD_eq_getElem?_getD, List.getElem?_eq_none h]
theorem PRow.room_at {lo hi n : Nat} {w : World} {a : Option Addr} {l : List Prt} (h : PRow lo hi w a n l) (hm : room l ≤ 1048576) : n ≤ 1048576 ∧ ∀ i, (pt l i).zs.length ≤ 1048576 := by
  have h1 := room_eq l
  have h2 := h.len
  refine ⟨by omega, fun i => ?_⟩
  by_cases hi : i < l.length
  · have h3 := bodies_take l i hi
    have h4 := bodies_le l (i + 1)
    omega
  · rw [pt_end (by omega)]
    exact Nat.zero_le _

set_option maxHeartbeats 1600000 in
set_option maxRecDepth 100000 in
theorem get_spec (lo hi : Nat) (w : World) (a : Option Addr) (n c : Nat) (l : List Prt) (hr : PRow lo hi w a n l) (hh : hi ≤ w.heap.size) (d : Int) (hm : room l ≤ 1048576) :
    Calls Tryz.prog 11 #[.slice a n c, .int .i64 d] w (Got w.heap.size (pt l (fnd d l)) (decide (fnd d l < l.length)) w) := by
  obtain ⟨hn, hz⟩ := hr.room_at hm
  have hB : Below w.heap.size w (w.alloc (Obj.cells #[Value.int .i64 0, .slice none 0 0, .int .i64 0, .int .i64 0, .int .i64 0] 29 (0, 0))) := by repeat' (first | exact Below.refl _ _ | assumption | refine Below.setCell ?_ ?_ _ | refine Below.alloc ?_ ?_ _ | refine Adr.below_drewN ?_ _ | refine Below.drew ?_ | exact Nat.le_refl _ | omega | (dsimp only; omega) | refine Adr.le_alloc ?_ | refine Adr.le_set ?_ | refine Adr.le_drewN ?_ | refine Adr.le_drew ?_)
  have qR : Quint 29 w.heap.size (.int .i64 0) (.slice none 0 0) (.int .i64 0) (.int .i64 0) (.int .i64 0) (w.alloc (Obj.cells #[Value.int .i64 0, .slice none 0 0, .int .i64 0, .int .i64 0, .int .i64 0] 29 (0, 0))) := Quint.new _ _ _ _ _ _ w
  have hF := find_spec lo hi (w.alloc (Obj.cells #[Value.int .i64 0, .slice none 0 0, .int .i64 0, .int .i64 0, .int .i64 0] 29 (0, 0))) a n c l (hr.below hB) d (by omega)
  have HL := Lib.hid hr.len
  by_cases hf : fnd d l < l.length
  · rw [show found d l = (fnd d l : Int) by simp [found, hf]] at hF
    rw [show decide (fnd d l < l.length) = true by simp [hf]]
    obtain ⟨j, hj⟩ : ∃ j, fnd d l = j := ⟨_, rfl⟩
    rw [hj] at hF hf ⊢
    have hjn : j < n := by have := HL.out; omega
    have hzj := hz j
    obtain ⟨P, hP⟩ : ∃ P, pt l j = P := ⟨_, rfl⟩
    rw [hP] at hzj ⊢
    clear hj hf
    go_enter Tryz.func11, Tryz.ntmps11
    go_wp2_with fail
    go_at_call 45
    refine hF.mono ?_
    rintro e w1 ⟨rfl, rfl⟩
    have hb1 := Below.refl (w.alloc (Obj.cells #[Value.int .i64 0, .slice none 0 0, .int .i64 0, .int .i64 0, .int .i64 0] 29 (0, 0))).heap.size (w.alloc (Obj.cells #[Value.int .i64 0, .slice none 0 0, .int .i64 0, .int .i64 0, .int .i64 0] 29 (0, 0)))
    have hb1' := hB.trans (hb1.mono hB.size)
    have qR1 := qR.below hb1
    obtain ⟨b, off, A, cc, rfl, _, _, q, hla, _⟩ := (hr.under hb1' hh).at hjn
    rw [hP] at q hla
    have hs1 := hb1'.size
    have hC := Draw.copy5 lo hi P.k P.h P.p P.q _ A P.zs.length cc P.zs hla.row hzj
    obtain ⟨c0, c1, c2, c3, c4, c5, c6⟩ := q
    have hd : decide ((j : Int) < 0) = false := by simp
    clear hF hr qR hla
    go_wp2_with fail
    go_at_call 46
    refine hC.mono ?_
    rintro e w2 ⟨a', c', rfl, hO, hnc, hcm, hb2⟩
    have qR2 := qR1.below hb2
    have hb3 := hb1'.trans (hb2.mono hs1)
    have hs2 := hb2.size
    have hsz := qR1.lt
    obtain ⟨g0, g1, g2, g3, g4⟩ := (((((qR2.set0 (.int .i64 P.k)).set1 (.slice a' P.zs.length c')).set2 (.int .i64 P.h)).set3 (.int .i64 P.p)).set4 (.int .i64 P.q)).cells
    obtain ⟨f0, f1, f2, f3, f4⟩ := qR2.frozen
    obtain ⟨r0, r1, r2, r3, r4⟩ := qR2.cells
    clear c0 c1 c2 c3 c4 c5 c6 hC
    go_wp2
    refine bodyPost_ret (v := .tuple #[(Value.agg #[Value.int IntKind.i64 (P.k), Value.slice (a') (P.zs.length) (c'), Value.int IntKind.i64 (P.h), Value.int IntKind.i64 (P.p), Value.int IntKind.i64 (P.q)]), .bool true]) (by simp [results, Tryz.results11, go_sem, g0, g1, g2, g3, g4]) rfl ⟨a', c', rfl, (hO.zone (lo' := 0) (hi' := (w.alloc (Obj.cells #[Value.int .i64 0, .slice none 0 0, .int .i64 0, .int .i64 0, .int .i64 0] 29 (0, 0))).heap.size) ?_ (Or.inr (Nat.le_refl _))).more (by omega) (by simp only [size_set]; omega), hnc, hcm, ?_⟩
    · iterate 5 (refine Zone.setCell ?_ ⟨by omega, by omega⟩ _)
      exact Zone.refl _ _ _
    · iterate 5 (refine Below.setCell ?_ (by dsimp only; omega) _)
      exact hb3
  · rw [show found d l = -1 by simp [found, hf]] at hF
    rw [show decide (fnd d l < l.length) = false by simp [hf], pt_end (by omega)]
    clear hf
    go_enter Tryz.func11, Tryz.ntmps11
    go_wp2_with fail
    go_at_call 45
    refine hF.mono ?_
    rintro e w1 ⟨rfl, rfl⟩
    have hb1 := Below.refl (w.alloc (Obj.cells #[Value.int .i64 0, .slice none 0 0, .int .i64 0, .int .i64 0, .int .i64 0] 29 (0, 0))).heap.size (w.alloc (Obj.cells #[Value.int .i64 0, .slice none 0 0, .int .i64 0, .int .i64 0, .int .i64 0] 29 (0, 0)))
    have hb1' := hB.trans (hb1.mono hB.size)
    have qR1 := qR.below hb1
    obtain ⟨f0, f1, f2, f3, f4⟩ := qR1.frozen
    obtain ⟨r0, r1, r2, r3, r4⟩ := qR1.cells
    clear hF hr qR
    go_wp2
    refine bodyPost_ret (v := .tuple #[(Value.agg #[Value.int IntKind.i64 (0), Value.slice (none) (0) (0), Value.int IntKind.i64 (0), Value.int IntKind.i64 (0), Value.int IntKind.i64 (0)]), .bool false]) (by simp [results, Tryz.results11, go_sem]) rfl ⟨none, 0, rfl, Own.nil _ _ _ _ _, Nat.le_refl _, Nat.zero_le _, ?_⟩
    exact hb1'

set_option maxHeartbeats 1600000 in
set_option maxRecDepth 100000 in
theorem get_impl (lo hi : Nat) (w : World) (a : Option Addr) (n c : Nat) (l : List Prt) (hr : PRow lo hi w a n l) (hh : hi ≤ w.heap.size) (d : Int) (hm : room l ≤ 1048576) :
    Calls Tryz.prog 10 #[.slice a n c, .int .i64 d] w (Got w.heap.size (pt l (fnd d l)) (decide (fnd d l < l.length)) w) := by
  obtain ⟨hn, hz⟩ := hr.room_at hm
  have hB : Below w.heap.size w ((w.alloc (Obj.cells #[Value.int .i64 d] 3 (0, 0))).alloc (Obj.cells #[Value.int .i64 0, .slice none 0 0, .int .i64 0, .int .i64 0, .int .i64 0] 29 (0, 0))) := by repeat' (first | exact Below.refl _ _ | assumption | refine Below.setCell ?_ ?_ _ | refine Below.alloc ?_ ?_ _ | refine Adr.below_drewN ?_ _ | refine Below.drew ?_ | exact Nat.le_refl _ | omega | (dsimp only; omega) | refine Adr.le_alloc ?_ | refine Adr.le_set ?_ | refine Adr.le_drewN ?_ | refine Adr.le_drew ?_)
  have qR : Quint 29 (w.heap.size + 1) (.int .i64 0) (.slice none 0 0) (.int .i64 0) (.int .i64 0) (.int .i64 0) ((w.alloc (Obj.cells #[Value.int .i64 d] 3 (0, 0))).alloc (Obj.cells #[Value.int .i64 0, .slice none 0 0, .int .i64 0, .int .i64 0, .int .i64 0] 29 (0, 0))) := by have := Quint.new 29 (.int .i64 0) (.slice none 0 0) (.int .i64 0) (.int .i64 0) (.int .i64 0) (w.alloc (Obj.cells #[Value.int .i64 d] 3 (0, 0))); rw [size_alloc] at this; exact this
  have hmf : ∀ (fn : Fn) (first cap : Array Value) (w : World), (Instr.makeFunc fn first cap).run Tryz.prog w = .ok (.func fn first cap) w := fun _ _ _ _ => rfl
  have hX : ((w.alloc (Obj.cells #[Value.int .i64 d] 3 (0, 0))).alloc (Obj.cells #[Value.int .i64 0, .slice none 0 0, .int .i64 0, .int .i64 0, .int .i64 0] 29 (0, 0))).cell? ⟨w.heap.size, 0, none⟩ = some (.int .i64 d) := by
    have h2 : ((w.alloc (Obj.cells #[Value.int .i64 d] 3 (0, 0))).alloc (Obj.cells #[Value.int .i64 0, .slice none 0 0, .int .i64 0, .int .i64 0, .int .i64 0] 29 (0, 0))).heap[w.heap.size]? = (w.alloc (Obj.cells #[Value.int .i64 d] 3 (0, 0))).heap[w.heap.size]? := Below.heap_alloc _ _ _ (by rw [size_alloc]; omega)
    rw [Mem.cell_of_heap h2, World.cell?_alloc_at _ _ _ _ rfl]; rfl
  have hF := find_impl lo hi ((w.alloc (Obj.cells #[Value.int .i64 d] 3 (0, 0))).alloc (Obj.cells #[Value.int .i64 0, .slice none 0 0, .int .i64 0, .int .i64 0, .int .i64 0] 29 (0, 0))) a n c w.heap.size l (hr.below hB) (Nat.le_trans hh hB.size) d (by omega) hX
  have HL := Lib.hid hr.len
  by_cases hf : fnd d l < l.length
  · rw [show found d l = (fnd d l : Int) by simp [found, hf]] at hF
    rw [show decide (fnd d l < l.length) = true by simp [hf]]
    obtain ⟨j, hj⟩ : ∃ j, fnd d l = j := ⟨_, rfl⟩
    rw [hj] at hF hf ⊢
    have hjn : j < n := by have := HL.out; omega
    have hzj := hz j
    obtain ⟨P, hP⟩ : ∃ P, pt l j = P := ⟨_, rfl⟩
    rw [hP] at hzj ⊢
    clear hj hf
    go_enter Tryz.func10, Tryz.ntmps10
    go_wp2_with fail
    go_at_call 42
    refine hF.mono ?_
    rintro e w1 ⟨rfl, hb1⟩
    have hb1' := hB.trans (hb1.mono hB.size)
    have qR1 := qR.below hb1
    obtain ⟨b, off, A, cc, rfl, _, _, q, hla, _⟩ := (hr.under hb1' hh).at hjn
    rw [hP] at q hla
    have hs1 := hb1'.size
    have hC := copy_res lo hi P.k P.h P.p P.q w1 A P.zs.length cc P.zs hla.row hzj
    obtain ⟨c0, c1, c2, c3, c4, c5, c6⟩ := q
    have hd : decide ((j : Int) < 0) = false := by simp
    clear hF hr qR hla
    go_wp2_with fail
    go_at_call 44
    refine hC.mono ?_
    rintro e w2 ⟨a', c', rfl, hO, hnc, hcm, hb2⟩
    have qR2 := qR1.below hb2
    have hb3 := hb1'.trans (hb2.mono hs1)
    have hs2 := hb2.size
    have hsz := qR1.lt
    obtain ⟨g0, g1, g2, g3, g4⟩ := (((((qR2.set0 (.int .i64 P.k)).set1 (.slice a' P.zs.length c')).set2 (.int .i64 P.h)).set3 (.int .i64 P.p)).set4 (.int .i64 P.q)).cells
    obtain ⟨f0, f1, f2, f3, f4⟩ := qR2.frozen
    obtain ⟨r0, r1, r2, r3, r4⟩ := qR2.cells
    clear c0 c1 c2 c3 c4 c5 c6 hC
    go_wp2
    refine bodyPost_ret (v := .tuple #[(Value.agg #[Value.int IntKind.i64 (P.k), Value.slice (a') (P.zs.length) (c'), Value.int IntKind.i64 (P.h), Value.int IntKind.i64 (P.p), Value.int IntKind.i64 (P.q)]), .bool true]) (by simp [results, Tryz.results10, go_sem, g0, g1, g2, g3, g4]) rfl ⟨a', c', rfl, (hO.zone (lo' := 0) (hi' := w1.heap.size) ?_ (Or.inr (Nat.le_refl _))).more (by omega) (by simp only [size_set]; omega), hnc, hcm, ?_⟩
    · iterate 5 (refine Zone.setCell ?_ ⟨by omega, by omega⟩ _)
      exact Zone.refl _ _ _
    · iterate 5 (refine Below.setCell ?_ (by dsimp only; omega) _)
      exact hb3
  · rw [show found d l = -1 by simp [found, hf]] at hF
    rw [show decide (fnd d l < l.length) = false by simp [hf], pt_end (by omega)]
    clear hf
    go_enter Tryz.func10, Tryz.ntmps10
    go_wp2_with fail
    go_at_call 42
    refine hF.mono ?_
    rintro e w1 ⟨rfl, hb1⟩
    have hb1' := hB.trans (hb1.mono hB.size)
    have qR1 := qR.below hb1
    obtain ⟨g0, g1, g2, g3, g4⟩ := (((((qR1.set0 (.int .i64 0)).set1 (.slice none 0 0)).set2 (.int .i64 0)).set3 (.int .i64 0)).set4 (.int .i64 0)).cells
    obtain ⟨f0, f1, f2, f3, f4⟩ := qR1.frozen
    obtain ⟨r0, r1, r2, r3, r4⟩ := qR1.cells
    clear hF hr qR
    go_wp2
    refine bodyPost_ret (v := .tuple #[(Value.agg #[Value.int IntKind.i64 (0), Value.slice (none) (0) (0), Value.int IntKind.i64 (0), Value.int IntKind.i64 (0), Value.int IntKind.i64 (0)]), .bool false]) (by simp [results, Tryz.results10, go_sem, g0, g1, g2, g3, g4]) rfl ⟨none, 0, rfl, Own.nil _ _ _ _ _, Nat.le_refl _, Nat.zero_le _, ?_⟩
    iterate 5 (refine Below.setCell ?_ (by dsimp only; omega) _)
    exact hb1'
end Go.Proofs.YtedjclnojocjkaaGreatDoor.Parts
