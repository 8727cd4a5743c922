/-
  The exact laws' helpers at a piece: a copy, its size; at a slice of pieces: its size.
  Conditions: the new numbers are rows in memory; in all fewer than 2^45 numbers each.
-/
import Derived.Test.YtkjglmfnlpapbaaRes
import Derived.Test.YtkjglmfnlpapbaaPcbuf
namespace Go.Proofs.Ytkjglmfnlpapbaa.Pieces
open Go Go.RowKit Go.Proofs.Ytkjglmfnlpapbaa.Mem Go.Proofs.Ytkjglmfnlpapbaa.Adr Go.Proofs.Ytkjglmfnlpapbaa.Res

def CCopied (lo : Nat) (f m : Int) (n : Nat) (zs : List Int) (w : World) (e : Ending) (w' : World) : Prop :=
  ∃ a c, e = .returned (Value.agg #[Value.int IntKind.i64 (f), Value.int IntKind.i64 (m), Value.slice (a) (n) (c)]) ∧ Own .i64 lo w'.heap.size w' a n zs ∧ n ≤ c ∧ c ≤ maxLen ∧ Below lo w w'

set_option maxHeartbeats 1600000 in
set_option maxRecDepth 100000 in
theorem to_piece (lo hi : Nat) (f m : Int) (w : World) (a : Option Addr) (n c : Nat) (zs : List Int) (hr : Row .i64 lo hi w a n zs) (hh : hi ≤ w.heap.size) (hn : n ≤ 35184372088832) :
    Calls Try.prog 39 #[(Value.agg #[Value.int IntKind.i64 (f), Value.int IntKind.i64 (m), Value.slice (a) (n) (c)])] w (CCopied w.heap.size f m n zs w) := by
  obtain ⟨O1, hO1⟩ : ∃ O, O = Obj.cells #[Value.int .i64 f, .int .i64 m, .slice a n c] 57 (0, 0) := ⟨_, rfl⟩
  obtain ⟨O2, hO2⟩ : ∃ O, O = Obj.cells #[Value.int .i64 0, .int .i64 0, .slice none 0 0] 36 (0, 0) := ⟨_, rfl⟩
  obtain ⟨O3, hO3⟩ : ∃ O, O = Obj.cells #[Value.int .i64 f, .int .i64 m, .slice none 0 0] 36 (0, 0) := ⟨_, rfl⟩
  have hB1 : Below w.heap.size w (((w.alloc O1).alloc O2).alloc O3) := by repeat' (first | exact Below.refl _ _ | assumption | refine Below.setCell ?_ ?_ _ | refine Below.alloc ?_ ?_ _ | refine Adr.below_drewN ?_ _ | refine Below.drew ?_ | exact Nat.le_refl _ | omega | (dsimp only; omega) | refine Adr.le_alloc ?_ | refine Adr.le_set ?_ | refine Adr.le_drewN ?_ | refine Adr.le_drew ?_)
  have hS1 : (((w.alloc O1).alloc O2).alloc O3).heap.size = w.heap.size + 3 := by simp only [size_alloc]
  have qA : Trio 57 w.heap.size (.int .i64 f) (.int .i64 m) (.slice a n c) (((w.alloc O1).alloc O2).alloc O3) := by rw [hO1]; exact ((Trio.new _ _ _ _ w).alloc _).alloc _
  have qR : Trio 36 (w.heap.size + 1) (.int .i64 0) (.int .i64 0) (.slice none 0 0) (((w.alloc O1).alloc O2).alloc O3) := by have := (Trio.new 36 (.int .i64 0) (.int .i64 0) (.slice none 0 0) (w.alloc O1)).alloc O3; rw [size_alloc] at this; rw [hO2]; exact this
  have qO : Trio 36 (w.heap.size + 1 + 1) (.int .i64 f) (.int .i64 m) (.slice none 0 0) (((w.alloc O1).alloc O2).alloc O3) := by have := Trio.new 36 (.int .i64 f) (.int .i64 m) (.slice none 0 0) ((w.alloc O1).alloc O2); rw [size_alloc, size_alloc] at this; rw [hO3]; exact this
  have hT := Nts.to_any lo hi (((w.alloc O1).alloc O2).alloc O3) a n c zs (hr.under hB1 hh) (Nat.le_trans hh hB1.size) hn
  subst hO1 hO2 hO3
  go_enter Try.func39, Try.ntmps39
  go_wp2_with fail
  go_at_call 17
  refine hT.mono ?_
  rintro e w1 ⟨a', c', rfl, hO, hnc, hcm, hb1⟩
  have qA1 := qA.below hb1
  have qR1 := qR.below hb1
  have qO1 := qO.below hb1
  have hB2 := hB1.trans (hb1.mono hB1.size)
  have hS2 := hb1.size
  rw [hS1] at hS2 hO
  clear hT hr hb1 qA qR qO hB1 hS1
  obtain ⟨a0, a1, a2⟩ := qA1.cells
  obtain ⟨r0, r1, r2⟩ := qR1.cells
  obtain ⟨o0, o1, o2⟩ := qO1.cells
  obtain ⟨f0, f1, f2⟩ := qO1.frozen
  obtain ⟨fr0, fr1, fr2⟩ := qR1.frozen
  go_wp2
  obtain ⟨g0, g1, g2⟩ := ((((qR1.other (a := ⟨w.heap.size + 1 + 1, 2, none⟩) (.slice a' n c') (by simp)).set0 (.int .i64 f)).set1 (.int .i64 m)).set2 (.slice a' n c')).cells
  refine bodyPost_ret (v := (Value.agg #[Value.int IntKind.i64 (f), Value.int IntKind.i64 (m), Value.slice (a') (n) (c')])) (by simp [results, Try.results39, go_sem, g0, g1, g2]) rfl ⟨a', c', rfl, (hO.zone (lo' := 0) (hi' := w.heap.size + 3) ?_ (Or.inr (Nat.le_refl _))).more (by omega) (by simp only [size_set]; omega), hnc, hcm, ?_⟩
  · iterate 4 (refine Zone.setCell ?_ ⟨by omega, by omega⟩ _)
    exact Zone.refl _ _ _
  · iterate 4 (refine Below.setCell ?_ (by dsimp only; omega) _)
    exact hB2

set_option maxRecDepth 100000 in
theorem sz_piece (f m : Int) (a : Option Addr) (n c : Nat) (left : Int) (w : World) (hn : (n : Int) ≤ 9223372036854775807) (hl : 0 ≤ left) (hl' : left ≤ 1048576) :
    Calls Try.prog 37 #[(Value.agg #[Value.int IntKind.i64 (f), Value.int IntKind.i64 (m), Value.slice (a) (n) (c)]), .int .i64 left] w fun e w' => e = .returned (.int .i64 (if (n : Int) ≤ left then left - n else -1)) ∧ Below w.heap.size w w' := by
  have hS := fun w1 => sz_ints a n c left w1 hn hl hl'
  obtain ⟨r, hr⟩ : ∃ r, r = if (n : Int) ≤ left then left - n else -1 := ⟨_, rfl⟩
  rw [← hr] at hS ⊢
  have hB : Below w.heap.size w (w.alloc (.cells #[.int .i64 f, .int .i64 m, .slice a n c] 57)) := by repeat' (first | exact Below.refl _ _ | assumption | refine Below.setCell ?_ ?_ _ | refine Below.alloc ?_ ?_ _ | refine Adr.below_drewN ?_ _ | refine Below.drew ?_ | exact Nat.le_refl _ | omega | (dsimp only; omega) | refine Adr.le_alloc ?_ | refine Adr.le_set ?_ | refine Adr.le_drewN ?_ | refine Adr.le_drew ?_)
  have hr' : r = -1 ∨ 0 ≤ r := by split at hr <;> omega
  clear hr
  go_enter Try.func37, Try.ntmps37
  go_wp2_with fail
  go_at_call 44
  refine (hS _).mono ?_
  rintro e w1 ⟨rfl, rfl⟩
  rcases hr' with rfl | hr'
  · go_wp2
    go_ret
    exact ⟨rfl, hB⟩
  · have hd : decide (r < 0) = false := by simp; omega
    go_wp2
    go_ret
    exact ⟨rfl, hB⟩

set_option maxHeartbeats 1600000 in
set_option maxRecDepth 100000 in
theorem sz_pieces (lo hi : Nat) (w : World) (a : Option Addr) (n c : Nat) (l : List Pc) (hr : CRow lo hi w a n l) (hh : hi ≤ w.heap.size) (left : Int) (hn : (n : Int) ≤ 9223372036854775807) (hl : 0 ≤ left) (hl' : left ≤ 1048576) :
    Calls Try.prog 23 #[.slice a n c, .int .i64 left] w fun e w' => e = .returned (.int .i64 (if (room l : Int) ≤ left then left - room l else -1)) ∧ Below w.heap.size w w' := by
  have hlen := hr.len
  have hroom := room_eq l
  by_cases h0 : (n : Int) ≤ left
  rotate_left
  · have d : decide (left - (n : Int) < 0) = true := by simp; omega
    have e1 : IntKind.wrap .i64 (left - n) = left - n := by rw [IntKind.wrap_i64]; omega
    rw [if_neg (by omega)]
    clear hroom
    go_enter Try.func23, Try.ntmps23
    go_wp2
    go_ret
    exact ⟨rfl, by repeat' (first | exact Below.refl _ _ | assumption | refine Below.setCell ?_ ?_ _ | refine Below.alloc ?_ ?_ _ | refine Adr.below_drewN ?_ _ | refine Below.drew ?_ | exact Nat.le_refl _ | omega | (dsimp only; omega) | refine Adr.le_alloc ?_ | refine Adr.le_set ?_ | refine Adr.le_drewN ?_ | refine Adr.le_drew ?_)⟩
  have d : decide (left - (n : Int) < 0) = false := by simp; omega
  have e1 : IntKind.wrap .i64 (left - n) = left - n := by rw [IntKind.wrap_i64]; omega
  obtain ⟨res, hres⟩ : ∃ r : Int, r = if (room l : Int) ≤ left then left - room l else -1 := ⟨_, rfl⟩
  rw [← hres]
  have HR := Lib.hid hres
  have HM := Lib.hid hroom
  have HL := Lib.hid hlen
  clear hres hroom hlen
  go_enter Try.func23, Try.ntmps23
  go_wp2
  go_loopw [1, 5] (fun x i wr => ∃ (j : Nat) (r : Int), j ≤ n ∧ i = .int .i64 j ∧ x = .int .i64 r ∧ Hid (r = left - n - (bodies (l.take j) : Int)) ∧ 0 ≤ r ∧ r ≤ 1048576 ∧ Below w.heap.size w wr) (fun _ i _ => n - (intOf i).toNat)
  case atStart => exact ⟨0, left - n, Nat.zero_le _, rfl, rfl, by simp [bodies, Hid], by omega, by omega, by repeat' (first | exact Below.refl _ _ | assumption | refine Below.setCell ?_ ?_ _ | refine Below.alloc ?_ ?_ _ | refine Adr.below_drewN ?_ _ | refine Below.drew ?_ | exact Nat.le_refl _ | omega | (dsimp only; omega) | refine Adr.le_alloc ?_ | refine Adr.le_set ?_ | refine Adr.le_drewN ?_ | refine Adr.le_drew ?_)⟩
  case round =>
    obtain ⟨j, r, hj, rfl, rfl, HQ, hr0, hr1, hb⟩ := hrel
    by_cases hlt : j < n
    · obtain ⟨b, off, A, cc, rfl, _, _, hc, hla, _⟩ := (hr.under hb hh).at hlt
      obtain ⟨c0, c1, c2⟩ := hc
      have hS := fun w1 => sz_piece (pc l j).f (pc l j).m A (pc l j).zs.length cc r w1 (by have := hla.le; have := hla.max; unfold maxLen at this; omega) hr0 hr1
      obtain ⟨r2, hr2⟩ : ∃ x : Int, x = if ((pc l j).zs.length : Int) ≤ r then r - ((pc l j).zs.length : Int) else -1 := ⟨_, rfl⟩
      rw [← hr2] at hS
      have HB := Lib.hid (bodies_take l j (by have := HL.out; omega))
      have HK := Lib.hid (bodies_le l (j + 1))
      have hr2' : (r2 = -1 ∧ (r : Int) < (pc l j).zs.length) ∨ (0 ≤ r2 ∧ r2 ≤ r ∧ r2 = r - ((pc l j).zs.length : Int)) := by split at hr2 <;> omega
      have HC := Lib.hid hr2'
      have hw : r2 = -1 ∨ (0 ≤ r2 ∧ r2 ≤ 1048576) := by omega
      clear hr2 hr2' hla
      go_wp2_with fail
      go_at_call 37
      refine (hS _).mono ?_
      rintro e w1 ⟨rfl, hb1⟩
      have hb2 := hb.trans (hb1.mono hb.size)
      rcases hw with rfl | ⟨hw, hw'⟩
      · go_wp2
        go_ret
        refine ⟨?_, hb2⟩
        have h1 := HR.out
        have h2 := HQ.out
        have h3 := HB.out
        have h4 := HK.out
        have h5 := HM.out
        have h6 := HL.out
        rcases HC.out with ⟨_, h7⟩ | ⟨h7, _⟩
        · rw [if_neg (by omega)] at h1
          rw [h1]; rfl
        · omega
      · have hd : decide (r2 < 0) = false := by simp; omega
        go_wp2
        go_roundw
        case rel =>
          refine ⟨j + 1, r2, by omega, by go_num, rfl, ?_, hw, hw', hb2⟩
          have h2 := HQ.out
          have h3 := HB.out
          rcases HC.out with ⟨h7, _⟩ | ⟨_, _, h7⟩
          · omega
          · show r2 = _
            omega
        case measure => simp [intOf]; omega
    · have hd : decide ((j : Int) < (n : Int)) = false := by simp; omega
      have HE := Lib.hid (show j = n by omega)
      go_wp2
      go_ret
      refine ⟨?_, hb⟩
      have h1 := HR.out
      have h2 := HQ.out
      have h5 := HM.out
      have h6 := HL.out
      rw [HE.out, ← h6, List.take_length] at h2
      rw [if_pos (by omega)] at h1
      rw [show r = res by omega]; rfl
end Go.Proofs.Ytkjglmfnlpapbaa.Pieces
