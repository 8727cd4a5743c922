/-
  The program's copy of a part, and of a slice of parts.
  Conditions: the parts lie in memory, in all at most 2^20 numbers.
-/
import Derived.Test.YtedjclnojocjkaaGreatDoorCopyS
import Derived.Test.YtedjclnojocjkaaGreatDoorClone
namespace Go.Proofs.YtedjclnojocjkaaGreatDoor.Parts
open Go Go.RowKit Go.Proofs.YtedjclnojocjkaaGreatDoor.Mem Go.Proofs.YtedjclnojocjkaaGreatDoor.Adr Go.Proofs.YtedjclnojocjkaaGreatDoor.Res

set_option maxHeartbeats 1600000 in
set_option maxRecDepth 100000 in
theorem copy_part (lo hi : Nat) (d k h p q u : Int) (w : World) (a : Option Addr) (n c : Nat) (zs : List Int) (hr : Row .i64 lo hi w a n zs) (hn : n ≤ 1048576) :
    Calls Tryz.prog 94 #[(Value.agg #[Value.int IntKind.i64 (d), Value.int IntKind.i64 (k), Value.slice (a) (n) (c), Value.int IntKind.i64 (h), Value.int IntKind.i64 (p), Value.int IntKind.i64 (q), Value.int IntKind.i64 (u)])] w (PCopied w.heap.size d k h p q u n zs w) := by
  obtain ⟨O1, hO1⟩ : ∃ O, O = Obj.cells #[Value.int .i64 d, .int .i64 k, .slice a n c, .int .i64 h, .int .i64 p, .int .i64 q, .int .i64 u] 62 (0, 0) := ⟨_, rfl⟩
  obtain ⟨O2, hO2⟩ : ∃ O, O = Obj.cells #[Value.int .i64 0, .int .i64 0, .slice none 0 0, .int .i64 0, .int .i64 0, .int .i64 0, .int .i64 0] 62 (0, 0) := ⟨_, rfl⟩
  have hB1 : Below w.heap.size w ((w.alloc O1).alloc O2) := by repeat' (first | exact Below.refl _ _ | assumption | refine Below.setCell ?_ ?_ _ | refine Below.alloc ?_ ?_ _ | refine Adr.below_drewN ?_ _ | refine Below.drew ?_ | exact Nat.le_refl _ | omega | (dsimp only; omega) | refine Adr.le_alloc ?_ | refine Adr.le_set ?_ | refine Adr.le_drewN ?_ | refine Adr.le_drew ?_)
  have hS1 : ((w.alloc O1).alloc O2).heap.size = w.heap.size + 2 := by simp only [size_alloc]
  have qA : Sept 62 w.heap.size (.int .i64 d) (.int .i64 k) (.slice a n c) (.int .i64 h) (.int .i64 p) (.int .i64 q) (.int .i64 u) ((w.alloc O1).alloc O2) := by rw [hO1]; exact (Sept.new _ _ _ _ _ _ _ _ w).alloc _
  have qR : Sept 62 (w.heap.size + 1) (.int .i64 0) (.int .i64 0) (.slice none 0 0) (.int .i64 0) (.int .i64 0) (.int .i64 0) (.int .i64 0) ((w.alloc O1).alloc O2) := by have := Sept.new 62 (.int .i64 0) (.int .i64 0) (.slice none 0 0) (.int .i64 0) (.int .i64 0) (.int .i64 0) (.int .i64 0) (w.alloc O1); rw [size_alloc] at this; rw [hO2]; exact this
  have hT := copy_res lo hi k h p q ((w.alloc O1).alloc O2) a n c zs (hr.below hB1) hn
  subst hO1 hO2
  obtain ⟨a0, a1, a2, a3, a4, a5, a6⟩ := qA.cells
  go_enter Tryz.func94, Tryz.ntmps94
  go_wp2_with fail
  go_at_call 44
  refine hT.mono ?_
  rintro e w1 ⟨a', c', rfl, hO, hnc, hcm, hb1⟩
  have hB2 := hB1.trans (hb1.mono hB1.size)
  have hS2 := hb1.size
  have qA1 := qA.below hb1
  have qR1 := qR.below hb1
  rw [hS1] at hS2 hO
  clear hT a0 a1 a2 a3 a4 a5 a6 hr hb1 qA qR hB1
  obtain ⟨a0, a1, a2, a3, a4, a5, a6⟩ := qA1.cells
  obtain ⟨f0, f1, f2, f3, f4, f5, f6⟩ := qA1.frozen
  obtain ⟨fr0, fr1, fr2, fr3, fr4, fr5, fr6⟩ := qR1.frozen
  have qA2 := ((((qA1.set1 (.int .i64 k)).set2 (.slice a' n c')).set3 (.int .i64 h)).set4 (.int .i64 p)).set5 (.int .i64 q)
  have qR2 := ((((qR1.other (a := ⟨w.heap.size, 1, none⟩) (.int .i64 k) (by simp)).other (a := ⟨w.heap.size, 2, none⟩) (.slice a' n c') (by simp)).other (a := ⟨w.heap.size, 3, none⟩) (.int .i64 h) (by simp)).other (a := ⟨w.heap.size, 4, none⟩) (.int .i64 p) (by simp)).other (a := ⟨w.heap.size, 5, none⟩) (.int .i64 q) (by simp)
  obtain ⟨x0, x1, x2, x3, x4, x5, x6⟩ := qA2.cells
  obtain ⟨r0, r1, r2, r3, r4, r5, r6⟩ := qR2.cells
  obtain ⟨g0, g1, g2, g3, g4, g5, g6⟩ := (((((((qR2.set0 (.int .i64 d)).set1 (.int .i64 k)).set2 (.slice a' n c')).set3 (.int .i64 h)).set4 (.int .i64 p)).set5 (.int .i64 q)).set6 (.int .i64 u)).cells
  go_wp2
  refine bodyPost_ret (v := (Value.agg #[Value.int IntKind.i64 (d), Value.int IntKind.i64 (k), Value.slice (a') (n) (c'), Value.int IntKind.i64 (h), Value.int IntKind.i64 (p), Value.int IntKind.i64 (q), Value.int IntKind.i64 (u)])) (by simp [results, Tryz.results94, go_sem, g0, g1, g2, g3, g4, g5, g6]) rfl ⟨a', c', rfl, (hO.zone (lo' := 0) (hi' := w.heap.size + 2) ?_ (Or.inr (Nat.le_refl _))).more (by omega) (by simp only [size_set]; omega), hnc, hcm, ?_⟩
  · iterate 12 (refine Zone.setCell ?_ ⟨by omega, by omega⟩ _)
    exact Zone.refl _ _ _
  · iterate 12 (refine Below.setCell ?_ (by dsimp only; omega) _)
    exact hB2

set_option maxHeartbeats 4000000 in
set_option maxRecDepth 100000 in
theorem copy_parts (lo hi : Nat) (w : World) (a : Option Addr) (n c : Nat) (l : List Prt) (hr : PRow lo hi w a n l) (hh : hi ≤ w.heap.size) (hm : room l ≤ 1048576) :
    Calls Tryz.prog 75 #[.slice a n c] w (PList w.heap.size n l w) := by
  have hq := room_eq l
  have hlen := hr.len
  have hn : n ≤ 1048576 := by omega
  have hz : ∀ i, i < n → (pt l i).zs.length ≤ 1048576 := fun i hi => by
    have h3 := bodies_take l i (by omega)
    have h4 := bodies_le l (i + 1)
    omega
  have HL := Lib.hid hlen
  have h0 := PBuf.made 62 w.heap.size w (Nat.le_refl _)
  have hb0 : Below w.heap.size w (w.alloc (.cells #[] 62)) := by repeat' (first | exact Below.refl _ _ | assumption | refine Below.setCell ?_ ?_ _ | refine Below.alloc ?_ ?_ _ | refine Adr.below_drewN ?_ _ | refine Below.drew ?_ | exact Nat.le_refl _ | omega | (dsimp only; omega) | refine Adr.le_alloc ?_ | refine Adr.le_set ?_ | refine Adr.le_drewN ?_ | refine Adr.le_drew ?_)
  have hs0 : (w.alloc (.cells #[] 62)).heap.size = w.heap.size + 1 := size_alloc _ _
  rw [← hs0] at h0
  clear hlen hm hq
  go_enter Tryz.func75, Tryz.ntmps75
  go_wp2
  go_loopw [3, 9] (fun v i wr => ∃ (j : Nat) (G : List Body), j ≤ n ∧ i = .int .i64 j ∧ PBuf 62 w.heap.size wr.heap.size wr v j (l.take j) G ∧ Below w.heap.size w wr) (fun _ i _ => n - (intOf i).toNat)
  case atStart => exact ⟨0, [], Nat.zero_le _, rfl, by simpa using h0, hb0⟩
  case round =>
    obtain ⟨j, G, hj, rfl, hv, hb⟩ := hrel
    clear h0 hb0 hs0
    obtain ⟨va, vc, rfl⟩ := hv.slice
    by_cases hlt : j < n
    · obtain ⟨b, off, A, cc, rfl, _, hbhi, q, hla, wP⟩ := (hr.under hb hh).at hlt
      have hzj := hz j hlt
      have HT := Lib.hid (take_next (l := l) (j := j) (by have := HL.out; omega))
      obtain ⟨P, hP⟩ : ∃ P, pt l j = P := ⟨_, rfl⟩
      rw [hP] at q hla wP hzj HT
      have hbs := hb.size
      have hA1 : Below wr.heap.size wr (wr.alloc (.cells #[.int .i64 P.d, .int .i64 P.k, .slice A P.zs.length cc, .int .i64 P.h, .int .i64 P.p, .int .i64 P.q, .int .i64 P.u] 62)) := (Below.refl _ _).alloc (Nat.le_refl _) _
      have hsA1 := hA1.size
      have qB := Sept.new 62 (.int .i64 P.d) (.int .i64 P.k) (.slice A P.zs.length cc) (.int .i64 P.h) (.int .i64 P.p) (.int .i64 P.q) (.int .i64 P.u) wr
      have hC := copy_part lo hi P.d P.k P.h P.p P.q P.u _ A P.zs.length cc P.zs (hla.row.below hA1) hzj
      obtain ⟨x0, x1, x2, x3, x4, x5, x6⟩ := q.all
      obtain ⟨y0, y1, y2, y3, y4, y5, y6⟩ := qB.cells
      clear hr hla q
      go_wp2_with fail
      go_at_call 94
      refine hC.mono ?_
      rintro e w9 ⟨a', c', rfl, hO, hnc, hcm, hb9⟩
      have hs9 := hb9.size
      have hA : Below w9.heap.size w9 (w9.alloc (.cells #[.int .i64 P.d, .int .i64 P.k, .slice a' P.zs.length c', .int .i64 P.h, .int .i64 P.p, .int .i64 P.q, .int .i64 P.u] 62)) := (Below.refl _ _).alloc (Nat.le_refl _) _
      have hvA := ((hv.under hA1 (Nat.le_refl _)).under hb9 hsA1).under hA (Nat.le_trans hsA1 hs9)
      have hOA := ((hO.below hA).more (lo' := wr.heap.size) hsA1 (Nat.le_refl _)).more (Nat.le_refl _) hA.size
      have sA := Sept.new 62 (.int .i64 P.d) (.int .i64 P.k) (.slice a' P.zs.length c') (.int .i64 P.h) (.int .i64 P.p) (.int .i64 P.q) (.int .i64 P.u) w9
      have bA := ((hb.trans (hA1.mono hbs)).trans (hb9.mono (Nat.le_trans hbs hsA1))).trans (hA.mono (Nat.le_trans hbs (Nat.le_trans hsA1 hs9)))
      have hsA := hA.size
      clear x0 x1 x2 x3 x4 x5 x6 y0 y1 y2 y3 y4 y5 y6 hC
      go_wp2_with (at_builtin; refine wpList_append_parts (M := wr.heap.size) rfl _ _ rfl hvA (News.one sA hOA hnc hcm wP) ?c1 ?c2 ?c3 rfl rfl ?_; (case c1 => exact hbs); (case c2 => omega); (case c3 => omega); intro v' w5 hv5 hb5 _)
      rw [← HT.out] at hv5
      obtain ⟨va', vc', rfl⟩ := hv5.slice
      go_wp2
      go_roundw
      case rel => exact ⟨j + 1, _, by omega, by go_num, hv5, bA.trans hb5⟩
      case measure => simp [intOf]; omega
    · have hd : decide ((j : Int) < (n : Int)) = false := by simp; omega
      have HE := Lib.hid (show j = n by omega)
      go_wp2
      go_ret
      rw [HE.out, ← HL.out, List.take_length, HL.out] at hv
      exact ⟨_, G, rfl, by rw [HE.out]; exact hv, hb⟩
end Go.Proofs.YtedjclnojocjkaaGreatDoor.Parts
