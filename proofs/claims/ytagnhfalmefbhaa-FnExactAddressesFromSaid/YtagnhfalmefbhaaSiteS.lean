/-
  Sites that change: the model. Whether a site is valid; what an address has at a tick.
  Conditions: the versions lie in memory, with 2^20 numbers at most.
-/
import Derived.Test.YtagnhfalmefbhaaSiteMath
import Derived.Test.YtagnhfalmefbhaaSound
import Derived.Test.YtagnhfalmefbhaaCopy5
import Derived.Test.YtagnhfalmefbhaaRange
import Derived.Deep.QuietTactic
import Derived.BigQuiet
import Derived.Deep.CutBlock
import Derived.Deep.DeepCutAuto
namespace Go.Proofs.Ytagnhfalmefbhaa.Sites
open Go Go.RowKit Go.Proofs.Ytagnhfalmefbhaa.Mem Go.Proofs.Ytagnhfalmefbhaa.Gen Go.Proofs.Ytagnhfalmefbhaa.Adr Go.Proofs.Ytagnhfalmefbhaa.Res Go.Proofs.Ytagnhfalmefbhaa.Range Go.Proofs.Ytagnhfalmefbhaa.Draw

set_option maxHeartbeats 1600000 in
set_option maxRecDepth 100000 in
theorem site_spec (lo hi : Nat) (w : World) (A : Option Addr) (c : Nat) (l : List TVersion) (h : Lies lo hi w (dVersion l) (.slice A l.length c)) (hh : hi ≤ w.heap.size) (hm : room (dVersion l) ≤ 1048576) :
    Calls Try.prog 40 #[.slice A l.length c] w fun e w' => e = .returned (.bool (siteB l)) ∧ Below w.heap.size w w' := by
  obtain ⟨n, hn⟩ : ∃ n, l.length = n := ⟨_, rfl⟩
  have hnm : n ≤ 1048576 := by have : room (dVersion l) = l.length + _ := rfl; omega
  have hb : ∀ j, j < n → (l.getD j nVersion).f2.f1.length ≤ 1048576 := fun j hj => by have := room_body (l := l) (i := j) (by omega); rw [room_ints] at this; omega
  obtain ⟨r, hr⟩ : ∃ r, siteB l = r := ⟨_, rfl⟩
  rw [hr]
  rw [hn] at h ⊢
  have HN := Lib.hid hn
  have HR := Lib.hid hr
  have HB := Lib.hid hb
  clear hn hr hb hm
  go_enter Try.func40, Try.ntmps40
  go_wp2
  go_loopw [3] (fun i wr => ∃ j : Nat, j ≤ n ∧ i = .int .i64 j ∧ AllOk l j ∧ Below w.heap.size w wr) (fun i _ => n - (Go.RowKit.intOf i).toNat)
  case atStart => exact ⟨0, Nat.zero_le _, rfl, AllOk.zero _, Below.refl _ _⟩
  case round =>
    obtain ⟨j, hj, rfl, hal, hbl⟩ := hrel
    by_cases hlt : j < n
    · have hbs := hbl.size
      obtain ⟨b, off, A5, c5, rfl, _, _, hc, q5, _⟩ := at_Version (h.under hbl hh) hlt
      have hz := HB.out j hlt
      have HNO := Lib.hid (fun h => siteB_no (l := l) (j := j) (by rw [HN.out]; exact hlt) h)
      have HYE := Lib.hid (fun h => hal.next h)
      obtain ⟨V, hV⟩ : ∃ V, l.getD j nVersion = V := ⟨_, rfl⟩
      rw [hV] at hc q5 hz HNO HYE
      have hokv : okV V = (okA V.f0.f0 V.f0.f1 V.f0.f2 && (decide (0 ≤ V.f1 ∧ V.f1 ≤ 1000) && okRes V.f2)) := rfl
      have HK := Lib.hid hokv
      obtain ⟨c0, c1, c2, c3, c4, c5', c6, c7, c8⟩ := hc
      obtain ⟨hrow, _, _⟩ := q5.row'
      clear hV hokv q5 hal
      obtain ⟨r1, hr1⟩ : ∃ r, okA V.f0.f0 V.f0.f1 V.f0.f2 = r := ⟨_, rfl⟩
      have hA := fun W => is_spec V.f0.f0 V.f0.f1 V.f0.f2 W
      rw [hr1] at hA HK
      clear hr1
      cases r1 with
      | false =>
        go_wp2_with (go_at_call 75; refine (hA _).mono ?_; rintro e w1 ⟨rfl, hb1⟩)
        go_ret
        have e1 := HNO.out (by rw [HK.out]; rfl)
        rw [HR.out] at e1
        exact ⟨by rw [e1]; rfl, hbl.trans (hb1.mono hbs)⟩
      | true =>
      by_cases t2 : 0 ≤ V.f1 ∧ V.f1 ≤ 1000
      rotate_left
      · go_wp2_with fail
        go_at_call 75
        refine (hA _).mono ?_
        rintro e w1 ⟨rfl, hb1⟩
        have e0 := hb1.block b (Mem.cell_lt c0)
        have c3 := c3
        rw [← Mem.cell_of_heap e0] at c3
        go_wp2_with (go_at_call 41; refine (l1_no V.f1 0 1000 _ (by omega)).mono ?_; rintro e w2 ⟨rfl, rfl⟩)
        go_ret
        have e1 := HNO.out (by rw [HK.out]; simp [t2])
        rw [HR.out] at e1
        exact ⟨by rw [e1]; rfl, hbl.trans (hb1.mono hbs)⟩
      have hR := fun W hW => valid_spec lo hi V.f2.f0 V.f2.f2.f0 V.f2.f2.f1 V.f2.f2.f2 W A5 V.f2.f1.length c5 V.f2.f1 hW hz
      obtain ⟨r3, hr3⟩ : ∃ r, okRes V.f2 = r := ⟨_, rfl⟩
      rw [hr3] at HK
      rw [show okR V.f2.f0 V.f2.f2.f0 V.f2.f2.f1 V.f2.f2.f2 V.f2.f1.length V.f2.f1 = r3 from hr3] at hR
      clear hr3
      go_wp2_with fail
      go_at_call 75
      refine (hA _).mono ?_
      rintro e w1 ⟨rfl, hb1⟩
      have e0 := hb1.block b (Mem.cell_lt c0)
      rw [← Mem.cell_of_heap e0] at c3 c4 c5' c6 c7 c8
      have hrow1 := hrow.below hb1
      have hbl1 := hbl.trans (hb1.mono hbs)
      clear c0 c1 c2 hrow e0 hA
      go_wp2_with fail
      go_at_call 41
      refine (l1_yes V.f1 0 1000 _ (by omega) (by omega)).mono ?_
      rintro e w2 ⟨rfl, rfl⟩
      go_wp2_with fail
      go_at_call 55
      refine (hR _ hrow1).mono ?_
      rintro e w3 ⟨rfl, hb3⟩
      have hbl3 := hbl1.trans (hb3.mono hbl1.size)
      clear hR hrow1
      cases r3 with
      | false =>
        go_wp2
        go_ret
        have e1 := HNO.out (by rw [HK.out]; simp)
        rw [HR.out] at e1
        exact ⟨by rw [e1]; rfl, hbl3⟩
      | true =>
      have hal2 := HYE.out (by rw [HK.out]; simp [t2])
      go_wp2
      go_roundw
      case rel => exact ⟨j + 1, by omega, by go_num, hal2, hbl3⟩
      case measure => simp [Go.RowKit.intOf]; omega
    · have hd : decide ((j : Int) < (n : Int)) = false := by simp; omega
      have e1 := hal.end (by rw [HN.out]; omega)
      rw [HR.out, HN.out] at e1
      go_wp2
      go_ret
      refine ⟨?_, hbl⟩
      rw [e1]
      by_cases h12 : n ≤ 12
      · rw [decide_eq_true h12, decide_eq_true (show (n : Int) ≤ 12 by omega)]; rfl
      · rw [decide_eq_false h12, decide_eq_false (show ¬ (n : Int) ≤ 12 by omega)]; rfl

theorem hit_cases {A : TAddress} {t : Int} {V : TVersion} (h : hit A t V = false) : ((V.f0.f0 == A.f0) = false) ∨ ((V.f0.f0 == A.f0) = true ∧ (V.f0.f1 == A.f1) = false) ∨ ((V.f0.f0 == A.f0) = true ∧ (V.f0.f1 == A.f1) = true ∧ (V.f0.f2 == A.f2) = false) ∨ ((V.f0.f0 == A.f0) = true ∧ (V.f0.f1 == A.f1) = true ∧ (V.f0.f2 == A.f2) = true ∧ decide (V.f1 ≤ t) = false) := by
  unfold hit sameA at h
  by_cases h0 : V.f0.f0 = A.f0 <;> by_cases h1 : V.f0.f1 = A.f1 <;> by_cases h2 : V.f0.f2 = A.f2 <;> simp_all
theorem hit_all {A : TAddress} {t : Int} {V : TVersion} (h : hit A t V = true) : (V.f0.f0 == A.f0) = true ∧ (V.f0.f1 == A.f1) = true ∧ (V.f0.f2 == A.f2) = true ∧ decide (V.f1 ≤ t) = true := by
  unfold hit sameA at h
  simp only [Bool.and_eq_true, decide_eq_true_eq] at h
  obtain ⟨⟨h0, h1, h2⟩, h3⟩ := h
  simp [h0, h1, h2, h3]

set_option maxHeartbeats 4000000 in
set_option maxRecDepth 100000 in
theorem answer_spec (lo hi : Nat) (w : World) (L : Option Addr) (c : Nat) (l : List TVersion) (h : Lies lo hi w (dVersion l) (.slice L l.length c)) (hh : hi ≤ w.heap.size) (hm : room (dVersion l) ≤ 1048576) (A : TAddress) (t : Int) :
    Calls Try.prog 86 #[.slice L l.length c, .agg #[.int .i64 A.f0, .int .i64 A.f1, .int .i64 A.f2], .int .i64 t] w fun e w' => ∃ (a : Option Addr) (d : Nat), e = .returned (.agg #[.int .i64 (answer l A t).f0, .slice a (answer l A t).f1.length d, .int .i64 (answer l A t).f2.f0, .int .i64 (answer l A t).f2.f1, .int .i64 (answer l A t).f2.f2]) ∧ OwnD w.heap.size w'.heap.size w' (ints (answer l A t).f1) (.slice a (answer l A t).f1.length d) ∧ Below w.heap.size w w' := by
  obtain ⟨n, hn⟩ : ∃ n, l.length = n := ⟨_, rfl⟩
  have hnm : n ≤ 1048576 := by have : room (dVersion l) = l.length + _ := rfl; omega
  have hb : ∀ j, j < n → (l.getD j nVersion).f2.f1.length ≤ 1048576 := fun j hj => by have := room_body (l := l) (i := j) (by omega); rw [room_ints] at this; omega
  have hbx : ∀ j, j ≤ n → (answerTo l A t j).f1.length ≤ 1048576 := fun j hj => Nat.le_trans (room_answer l A t j (by omega)) hm
  have hR : answer l A t = answerTo l A t n := by unfold answer; rw [hn]
  rw [hR]
  rw [hn] at h ⊢
  have HB := Lib.hid hb
  have HBX := Lib.hid hbx
  obtain ⟨D, hD⟩ : ∃ D, D = answerTo l A t := ⟨_, rfl⟩
  rw [← hD] at HBX ⊢
  have hD0 : D 0 = noneR := by rw [hD]; rfl
  have hDs : ∀ j, D (j + 1) = if hit A t (l.getD j nVersion) = true then (l.getD j nVersion).f2 else D j := fun j => by rw [hD]; rfl
  have HD := Lib.hid hDs
  obtain ⟨O1, hO1⟩ : ∃ O, O = Obj.cells (adrCells A).toArray 29 (0, 0) := ⟨_, rfl⟩
  obtain ⟨O2, hO2⟩ : ∃ O, O = Obj.cells (resCells ⟨0, [], ⟨0, 0, 0⟩⟩ none 0).toArray 39 (0, 0) := ⟨_, rfl⟩
  obtain ⟨O3, hO3⟩ : ∃ O, O = Obj.cells (resCells noneR none 0).toArray 39 (0, 0) := ⟨_, rfl⟩
  have hB0 : Below w.heap.size w (((w.alloc O1).alloc O2).alloc O3) := by repeat' (first | exact Below.refl _ _ | assumption | refine Below.setCell ?_ ?_ _ | refine Below.alloc ?_ ?_ _ | refine Gen.gbelow_drewN ?_ _ | refine Below.drew ?_ | exact Nat.le_refl _ | omega | (dsimp only; omega) | refine Gen.gle_alloc ?_ | refine Gen.gle_set ?_ | refine Gen.gle_drewN ?_ | refine Gen.gle_drew ?_)
  have qA : Blk 29 w.heap.size (adrCells A) (((w.alloc O1).alloc O2).alloc O3) := by rw [hO1]; exact ((Blk.new _ _ w).alloc _).alloc _
  have qR : Blk 39 (w.heap.size + 1) (resCells ⟨0, [], ⟨0, 0, 0⟩⟩ none 0) (((w.alloc O1).alloc O2).alloc O3) := by have := (Blk.new 39 (resCells ⟨0, [], ⟨0, 0, 0⟩⟩ none 0) (w.alloc O1)).alloc O3; rw [gsize_alloc] at this; rw [hO2]; exact this
  have qO : Blk 39 (w.heap.size + 1 + 1) (resCells noneR none 0) (((w.alloc O1).alloc O2).alloc O3) := by have := Blk.new 39 (resCells noneR none 0) ((w.alloc O1).alloc O2); rw [gsize_alloc, gsize_alloc] at this; rw [hO3]; exact this
  have ho : OwnD (w.heap.size + 3) (((w.alloc O1).alloc O2).alloc O3).heap.size (((w.alloc O1).alloc O2).alloc O3) (ints noneR.f1) (.slice none noneR.f1.length 0) := Owns.of_row (lo := 0) (hi := 0) (Own.nil _ _ _ _ _) (Nat.le_refl _) (Nat.zero_le _) (fun _ _ h => absurd h (by omega))
  have hS0 : (((w.alloc O1).alloc O2).alloc O3).heap.size = w.heap.size + 3 := by simp only [gsize_alloc]
  subst hO1 hO2 hO3
  clear hn hR hb hbx hD hDs hm
  go_enter Try.func86, Try.ntmps86
  go_wp2
  go_loopw [8] (fun i wr => ∃ (j : Nat) (a : Option Addr) (d : Nat), j ≤ n ∧ i = .int .i64 j ∧ Blk 29 w.heap.size (adrCells A) wr ∧ Blk 39 (w.heap.size + 1) (resCells ⟨0, [], ⟨0, 0, 0⟩⟩ none 0) wr ∧ Blk 39 (w.heap.size + 1 + 1) (resCells (D j) a d) wr ∧ OwnD (w.heap.size + 3) wr.heap.size wr (ints (D j).f1) (.slice a (D j).f1.length d) ∧ Below w.heap.size w wr ∧ w.heap.size + 3 ≤ wr.heap.size) (fun i _ => n - (Go.RowKit.intOf i).toNat)
  case atStart => exact ⟨0, none, 0, Nat.zero_le _, rfl, qA, qR, by rw [hD0]; exact qO, by rw [hD0]; exact ho, hB0, Nat.le_of_eq hS0.symm⟩
  case round =>
    obtain ⟨j, a, d, hj, rfl, qA, qR, qO, ho, hbl, hs3⟩ := hrel
    by_cases hlt : j < n
    · have hbs := hbl.size
      obtain ⟨b, off, A5, c5, rfl, _, hbh, hc, q5, _⟩ := at_Version (h.under hbl hh) hlt
      have hz := HB.out j hlt
      obtain ⟨V, hV⟩ : ∃ V, l.getD j nVersion = V := ⟨_, rfl⟩
      have hDj := HD.out j
      rw [hV] at hc q5 hz hDj
      obtain ⟨c0, c1, c2, c3, c4, c5', c6, c7, c8⟩ := hc
      obtain ⟨hrow, _, _⟩ := q5.row'
      have a0 : wr.cell? ⟨w.heap.size, 0, none⟩ = some (.int .i64 A.f0) := qA.at rfl
      have a1 : wr.cell? ⟨w.heap.size, 1, none⟩ = some (.int .i64 A.f1) := qA.at rfl
      have a2 : wr.cell? ⟨w.heap.size, 2, none⟩ = some (.int .i64 A.f2) := qA.at rfl
      clear hV q5
      by_cases hit1 : hit A t V = true
      · rw [if_pos hit1] at hDj
        obtain ⟨e0, e1, e2, e3⟩ := hit_all hit1
        have hC := fun W hW => copy5 lo hi V.f2.f0 V.f2.f2.f0 V.f2.f2.f1 V.f2.f2.f2 W A5 V.f2.f1.length c5 V.f2.f1 hW hz
        go_upto_region 5 with fail
        go_quiet (fail)
        go_wp2_with fail
        go_at_call 98
        refine (hC _ (hrow.drewN _)).mono ?_
        rintro e w1 ⟨x1, y1, rfl, ho1, hk1, hk2, hb1⟩
        have qA1 := (qA.drewN _).below hb1
        have qR1 := (qR.drewN _).below hb1
        have qO1 := (qO.drewN _).below hb1
        have hz1 := hb1.size
        have hbw := (gbelow_drewN hbl _).trans (hb1.mono hbs)
        have hs4 : w.heap.size + 3 ≤ w1.heap.size := Nat.le_trans hs3 hz1
        have o0 : w1.cell? ⟨w.heap.size + 1 + 1, 0, none⟩ = some (.int .i64 (D j).f0) := qO1.at rfl
        have o1 : w1.cell? ⟨w.heap.size + 1 + 1, 1, none⟩ = some (.slice a (D j).f1.length d) := qO1.at rfl
        have o2 : w1.cell? ⟨w.heap.size + 1 + 1, 2, none⟩ = some (.int .i64 (D j).f2.f0) := qO1.at rfl
        have o3 : w1.cell? ⟨w.heap.size + 1 + 1, 3, none⟩ = some (.int .i64 (D j).f2.f1) := qO1.at rfl
        have o4 : w1.cell? ⟨w.heap.size + 1 + 1, 4, none⟩ = some (.int .i64 (D j).f2.f2) := qO1.at rfl
        have p0 := qO1.free 0
        have p1 := qO1.free 1
        have p2 := qO1.free 2
        have p3 := qO1.free 3
        have p4 := qO1.free 4
        have hown := Owns.of_row (S := Span (w.heap.size + 3) w1.heap.size) (c := y1) ho1 hk1 hk2 (fun t h1 h2 => ⟨Nat.le_trans hs3 h1, h2⟩)
        clear hrow hC c0 c1 c2 c3 c4 c5' c6 c7 c8 a0 a1 a2 hit1 e0 e1 e2 e3
        go_wp2
        go_roundw
        case rel =>
          refine ⟨j + 1, x1, y1, by omega, by go_num, ?_, ?_, ?_, ?_, ?_, ?_⟩
          · exact ((((qA1.other _ (by dsimp only; omega)).other _ (by dsimp only; omega)).other _ (by dsimp only; omega)).other _ (by dsimp only; omega)).other _ (by dsimp only; omega)
          · exact ((((qR1.other _ (by dsimp only; omega)).other _ (by dsimp only; omega)).other _ (by dsimp only; omega)).other _ (by dsimp only; omega)).other _ (by dsimp only; omega)
          · rw [hDj]
            exact ((((qO1.set 0 (.int .i64 V.f2.f0)).set 1 (.slice x1 V.f2.f1.length y1)).set 2 (.int .i64 V.f2.f2.f0)).set 3 (.int .i64 V.f2.f2.f1)).set 4 (.int .i64 V.f2.f2.f2)
          · rw [hDj]
            refine OwnD.more (OwnD.zone hown (lo' := 0) (hi' := w.heap.size + 3) ?_ (Or.inr (Nat.le_refl _))) (Nat.le_refl _) (by simp only [gsize_set]; omega)
            iterate 5 (refine Zone.setCell ?_ ⟨by omega, by omega⟩ _)
            exact Zone.refl _ _ _
          · iterate 5 (refine Below.setCell ?_ (by dsimp only; omega) _)
            exact hbw
          · simp only [gsize_set]; exact hs4
        case measure => simp [Go.RowKit.intOf]; omega
      · have hit0 : hit A t V = false := by simpa using hit1
        rw [if_neg hit1] at hDj
        rw [← hDj] at qO ho
        clear hit1 hDj hz hrow
        rcases hit_cases hit0 with e0 | ⟨e0, e1⟩ | ⟨e0, e1, e2⟩ | ⟨e0, e1, e2, e3⟩
        all_goals
          go_upto_region 5 with fail
          go_quiet (fail)
          go_wp2
          go_roundw
          case rel => exact ⟨j + 1, a, d, by omega, by go_num, qA.drewN _, qR.drewN _, qO.drewN _, Owns.drewN ho _, gbelow_drewN hbl _, hs3⟩
          case measure => simp [Go.RowKit.intOf]; omega
    · have hd : decide ((j : Int) < (n : Int)) = false := by simp; omega
      have HE := Lib.hid (show j = n by omega)
      have o0 : wr.cell? ⟨w.heap.size + 1 + 1, 0, none⟩ = some (.int .i64 (D j).f0) := qO.at rfl
      have o1 : wr.cell? ⟨w.heap.size + 1 + 1, 1, none⟩ = some (.slice a (D j).f1.length d) := qO.at rfl
      have o2 : wr.cell? ⟨w.heap.size + 1 + 1, 2, none⟩ = some (.int .i64 (D j).f2.f0) := qO.at rfl
      have o3 : wr.cell? ⟨w.heap.size + 1 + 1, 3, none⟩ = some (.int .i64 (D j).f2.f1) := qO.at rfl
      have o4 : wr.cell? ⟨w.heap.size + 1 + 1, 4, none⟩ = some (.int .i64 (D j).f2.f2) := qO.at rfl
      have r0 : wr.cell? ⟨w.heap.size + 1, 0, none⟩ = some (.int .i64 0) := qR.at rfl
      have r1 : wr.cell? ⟨w.heap.size + 1, 1, none⟩ = some (.slice none 0 0) := qR.at rfl
      have r2 : wr.cell? ⟨w.heap.size + 1, 2, none⟩ = some (.int .i64 0) := qR.at rfl
      have r3 : wr.cell? ⟨w.heap.size + 1, 3, none⟩ = some (.int .i64 0) := qR.at rfl
      have r4 : wr.cell? ⟨w.heap.size + 1, 4, none⟩ = some (.int .i64 0) := qR.at rfl
      have p0 := qR.free 0
      have p1 := qR.free 1
      have p2 := qR.free 2
      have p3 := qR.free 3
      have p4 := qR.free 4
      go_wp2
      have qF := ((((qR.set 0 (.int .i64 (D j).f0)).set 1 (.slice a (D j).f1.length d)).set 2 (.int .i64 (D j).f2.f0)).set 3 (.int .i64 (D j).f2.f1)).set 4 (.int .i64 (D j).f2.f2)
      have g0 := qF.at (x := 0) rfl
      have g1 := qF.at (x := 1) rfl
      have g2 := qF.at (x := 2) rfl
      have g3 := qF.at (x := 3) rfl
      have g4 := qF.at (x := 4) rfl
      rw [← HE.out]
      refine bodyPost_ret (v := .agg #[.int .i64 (D j).f0, .slice a (D j).f1.length d, .int .i64 (D j).f2.f0, .int .i64 (D j).f2.f1, .int .i64 (D j).f2.f2]) (by simp [results, Try.results86, go_sem, g0, g1, g2, g3, g4]) rfl ⟨a, d, rfl, ?_, ?_⟩
      · refine OwnD.more (OwnD.zone ho (lo' := 0) (hi' := w.heap.size + 3) ?_ (Or.inr (Nat.le_refl _))) (by omega) (by simp only [gsize_set]; omega)
        iterate 5 (refine Zone.setCell ?_ ⟨by omega, by omega⟩ _)
        exact Zone.refl _ _ _
      · iterate 5 (refine Below.setCell ?_ (by dsimp only; omega) _)
        exact hbl
end Go.Proofs.Ytagnhfalmefbhaa.Sites
