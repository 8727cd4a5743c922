/-
  ParseAddress of the model: the address whose text it is, or none.
  Conditions: the text takes no more than 2^48 bytes.
-/
import Derived.Test.YtoiaigmfoglcbaaDoorSplitMath
import Derived.Test.YtoiaigmfoglcbaaDoorTrio
import Derived.Test.YtoiaigmfoglcbaaDoorAddrText
import Derived.Test.YtoiaigmfoglcbaaDoorParseSpec
import Derived.Lib.Hide
namespace Go.Proofs.YtoiaigmfoglcbaaDoor.Adr
open Go Go.RowKit Go.Proofs.YtoiaigmfoglcbaaDoor.Fmt

theorem ext_size {s : ByteArray} {i : Nat} (h : i < s.size) : (s.extract i (i + 1)).size = 1 := by simp; omega

theorem sp_yes (y : ByteArray) {m : Nat} (hs : y.size ≤ 9223372036854775807) (h : pnum y.data.toList = some m) (w : World) :
    Calls Tryd.prog 33 #[.string y] w fun e w' => e = .returned (.tuple #[.int .i64 m, .bool true]) ∧ Below w.heap.size w w' := by
  have h1 : pval y.data.toList = m := by unfold pval; rw [h]
  have h2 : pyes y.data.toList = true := by unfold pyes; rw [h]; rfl
  have := sparse_says y w hs
  rw [h1, h2] at this
  exact this
theorem pnum_le {l : List UInt8} {m : Nat} (h : pnum l = some m) : m ≤ 1000000000000 := (pnum_some h).2.2.1
theorem sp_no (y : ByteArray) (hs : y.size ≤ 9223372036854775807) (h : pnum y.data.toList = none) (w : World) :
    Calls Tryd.prog 33 #[.string y] w fun e w' => e = .returned (.tuple #[.int .i64 0, .bool false]) ∧ Below w.heap.size w w' := by
  have h1 : pval y.data.toList = 0 := by unfold pval; rw [h]
  have h2 : pyes y.data.toList = false := by unfold pyes; rw [h]; rfl
  have := sparse_says y w hs
  rw [h1, h2] at this
  exact this

set_option maxHeartbeats 2000000 in
set_option maxRecDepth 100000 in
theorem parse_spec (s : ByteArray) (w : World) (hs : s.size ≤ 281474976710656) :
    Calls Tryd.prog 18 #[.string s] w fun e w' => e = .returned (.tuple #[(Value.agg #[Value.int IntKind.i64 (paH s.data.toList), Value.int IntKind.i64 (paP s.data.toList), Value.int IntKind.i64 (paQ s.data.toList)]), .bool (paY s.data.toList)]) ∧ Below w.heap.size w w' := by
  have tA0 := (Trio.new 25 (.int .i64 0) (.int .i64 0) (.int .i64 0) w).alloc (.cells #[.string ⟨#[]⟩, .string ⟨#[]⟩, .string ⟨#[]⟩] 9)
  have tB0 := Trio.new 9 (.string ⟨#[]⟩) (.string ⟨#[]⟩) (.string ⟨#[]⟩) (w.alloc (.cells #[.int .i64 0, .int .i64 0, .int .i64 0] 25))
  rw [size_alloc] at tB0
  have bB0 : Below w.heap.size w ((w.alloc (.cells #[.int .i64 0, .int .i64 0, .int .i64 0] 25)).alloc (.cells #[.string ⟨#[]⟩, .string ⟨#[]⟩, .string ⟨#[]⟩] 9)) := by repeat' (first | exact Below.refl _ _ | assumption | refine Below.setCell ?_ ?_ _ | refine Below.alloc ?_ ?_ _ | refine Adr.below_drewN ?_ _ | refine Below.drew ?_ | exact Nat.le_refl _ | omega | refine Adr.le_alloc ?_ | refine Adr.le_set ?_ | refine Adr.le_drewN ?_ | refine Adr.le_drew ?_)
  go_enter Tryd.func18, Tryd.ntmps18
  go_wp2
  go_loopw [5, 6] (fun k i wr => ∃ (j q : Nat) (x y z : ByteArray), j ≤ s.size ∧ i = .int .i64 j ∧ k = .int .i64 q ∧ Hid (St (s.data.toList.take j) q x.data.toList y.data.toList z.data.toList) ∧ Trio 25 w.heap.size (.int .i64 0) (.int .i64 0) (.int .i64 0) wr ∧ Trio 9 (w.heap.size + 1) (.string x) (.string y) (.string z) wr ∧ Below w.heap.size w wr) (fun _ i _ => s.size - (intOf i).toNat)
  case atStart => exact ⟨0, 0, ⟨#[]⟩, ⟨#[]⟩, ⟨#[]⟩, Nat.zero_le _, rfl, rfl, Lib.hid st_nil, tA0, tB0, bB0⟩
  case round =>
    obtain ⟨j, q, x, y, z, hj, rfl, rfl, hS, tA, tB, bB⟩ := hrel
    clear tA0 tB0 bB0
    by_cases hlt : j < s.size
    · have hq := st_le hS.out
      have hsz := st_size hS.out
      simp only [List.length_take, size_list, Nat.min_eq_left hj] at hsz
      have hq3 : q = 0 ∨ q = 1 ∨ q = 2 := by omega
      have hz := ext_size hlt
      obtain ⟨c0, c1, c2⟩ := tB.cells
      obtain ⟨f0, f1, f2⟩ := tB.frozen
      have s1 : (j : Int) + 1 ≤ (s.size : Int) := by omega
      have s2 : (j : Int) ≤ (j : Int) + 1 := by omega
      have m0 : ¬ 9223372036854775807 < x.size + 1 := by omega
      have m1 : ¬ 9223372036854775807 < y.size + 1 := by omega
      have m2 : ¬ 9223372036854775807 < z.size + 1 := by omega
      clear hsz
      rcases hq3 with rfl | rfl | rfl
      · by_cases hA : at_ s j = 47
        · have h1 := tag_eq hlt 47 47 rfl hA
          have hN := Lib.hid (show St (s.data.toList.take (j + 1)) 1 x.data.toList y.data.toList z.data.toList by rw [take_snoc hlt, hA]; exact st_one hS.out)
          go_wp2
          exact ⟨⟨j + 1, 1, x, y, z, hlt, by go_num, rfl, hN, tA, tB, bB⟩, by simp [intOf]; omega⟩
        · have h1 := tag_ne hlt 47 47 rfl hA
          have hN := Lib.hid (show St (s.data.toList.take (j + 1)) 0 (x ++ s.extract j (j + 1)).data.toList y.data.toList z.data.toList by rw [take_snoc hlt, ext_one hlt]; exact st_x hS.out hA)
          go_wp2_with fail
          all_goals
            go_region
            go_wp2
            exact ⟨⟨j + 1, 0, _, _, _, hlt, by go_num, rfl, hN, (tA.other _ (by simp)).drew, (tB.set0 _).drew, (bB.setCell (by simp) _).drew⟩, by simp [intOf]; omega⟩
      · by_cases hA : at_ s j = 63
        · have h1 := tag_eq hlt 63 63 rfl hA
          have h2 := tag_ne hlt 47 47 rfl (by rw [hA]; decide)
          have hN := Lib.hid (show St (s.data.toList.take (j + 1)) 2 x.data.toList y.data.toList z.data.toList by rw [take_snoc hlt, hA]; exact st_two hS.out)
          go_wp2
          exact ⟨⟨j + 1, 2, x, y, z, hlt, by go_num, rfl, hN, tA, tB, bB⟩, by simp [intOf]; omega⟩
        · have h1 := tag_ne hlt 63 63 rfl hA
          have hN := Lib.hid (show St (s.data.toList.take (j + 1)) 1 x.data.toList (y ++ s.extract j (j + 1)).data.toList z.data.toList by rw [take_snoc hlt, ext_one hlt]; exact st_y hS.out hA)
          go_wp2_with fail
          all_goals
            go_region
            go_wp2
            exact ⟨⟨j + 1, 1, _, _, _, hlt, by go_num, rfl, hN, (tA.other _ (by simp)).drew, (tB.set1 _).drew, (bB.setCell (by simp) _).drew⟩, by simp [intOf]; omega⟩
      · skip
        have hN := Lib.hid (show St (s.data.toList.take (j + 1)) 2 x.data.toList y.data.toList (z ++ s.extract j (j + 1)).data.toList by rw [take_snoc hlt, ext_one hlt]; exact st_z hS.out)
        go_wp2_with fail
        all_goals
          go_region
          go_wp2
          exact ⟨⟨j + 1, 2, _, _, _, hlt, by go_num, rfl, hN, (tA.other _ (by simp)).drew, (tB.set2 _).drew, (bB.setCell (by simp) _).drew⟩, by simp [intOf]; omega⟩
    · obtain rfl : j = s.size := by omega
      have hS := hS.out
      rw [take_all] at hS
      have hsz := st_size hS
      simp only [size_list] at hsz
      obtain ⟨c0, c1, c2⟩ := tB.cells
      have hq3 : q = 0 ∨ q = 1 ∨ q = 2 := by have := st_le hS; omega
      have bx : x.size ≤ 9223372036854775807 := by omega
      have by_ : y.size ≤ 9223372036854775807 := by omega
      have bz : z.size ≤ 9223372036854775807 := by omega
      clear hsz
      rcases hq3 with rfl | rfl | rfl
      · have hno := pa_no (sp0_none (by rcases hS with ⟨_, _, h, _⟩ | ⟨h, _⟩ | ⟨h, _⟩ <;> first | exact h | cases h))
        have hy : pnum y.data.toList = none := by rcases hS with ⟨_, _, _, h, _⟩ | ⟨h, _⟩ | ⟨h, _⟩ <;> first | (rw [h]; exact pnum_nil) | cases h
        cases hp : pnum x.data.toList with
        | none =>
          go_wp2_with fail
          go_at_call 33
          refine (sp_no x bx hp _).mono ?_
          rintro e w1 ⟨rfl, hb1⟩
          have tA1 := tA.below hb1
          have tB1 := tB.below hb1
          have bB1 := bB.trans (hb1.mono bB.size)
          obtain ⟨c0, c1, c2⟩ := tB1.cells
          clear tA tB bB hb1
          go_wp2_with fail
          go_at_call 33
          refine (sp_no y by_ hy _).mono ?_
          rintro e w2 ⟨rfl, hb2⟩
          have tA2 := tA1.below hb2
          have tB2 := tB1.below hb2
          have bB2 := bB1.trans (hb2.mono bB1.size)
          obtain ⟨c0, c1, c2⟩ := tB2.cells
          clear tA1 tB1 bB1 hb2
          have tF := tA2.alloc (.cells #[.int .i64 (0), .int .i64 (0), .int .i64 (0)] 25)
          have hBF := bB2.alloc bB2.size (.cells #[.int .i64 (0), .int .i64 (0), .int .i64 (0)] 25)
          obtain ⟨a0, a1, a2⟩ := tF.cells
          obtain ⟨f0, f1, f2⟩ := tF.frozen
          go_wp2_with fail
          rw [hno.1, hno.2.1, hno.2.2.1, hno.2.2.2]
          have g0 := (tF.set0 (.int .i64 (0))).cells.1
          have g1 := ((tF.set0 (.int .i64 (0))).set1 (.int .i64 (0))).cells.2.1
          have g2 := (((tF.set0 (.int .i64 (0))).set1 (.int .i64 (0))).set2 (.int .i64 (0))).cells.2.2
          refine bodyPost_ret (v := .tuple #[(Value.agg #[Value.int IntKind.i64 (0), Value.int IntKind.i64 (0), Value.int IntKind.i64 (0)]), .bool false]) (by simp [results, Tryd.results18, go_sem, g0, g1, g2]) rfl ⟨rfl, ?_⟩
          exact ((hBF.setCell (Nat.le_refl _) _).setCell (Nat.le_refl _) _).setCell (Nat.le_refl _) _
        | some m =>
          go_wp2_with fail
          go_at_call 33
          refine (sp_yes x bx hp _).mono ?_
          rintro e w1 ⟨rfl, hb1⟩
          have tA1 := tA.below hb1
          have tB1 := tB.below hb1
          have bB1 := bB.trans (hb1.mono bB.size)
          obtain ⟨c0, c1, c2⟩ := tB1.cells
          clear tA tB bB hb1
          go_wp2_with fail
          go_at_call 33
          refine (sp_no y by_ hy _).mono ?_
          rintro e w2 ⟨rfl, hb2⟩
          have tA2 := tA1.below hb2
          have tB2 := tB1.below hb2
          have bB2 := bB1.trans (hb2.mono bB1.size)
          obtain ⟨c0, c1, c2⟩ := tB2.cells
          clear tA1 tB1 bB1 hb2
          have tF := tA2.alloc (.cells #[.int .i64 (m), .int .i64 (0), .int .i64 (0)] 25)
          have hBF := bB2.alloc bB2.size (.cells #[.int .i64 (m), .int .i64 (0), .int .i64 (0)] 25)
          obtain ⟨a0, a1, a2⟩ := tF.cells
          obtain ⟨f0, f1, f2⟩ := tF.frozen
          go_wp2_with fail
          rw [hno.1, hno.2.1, hno.2.2.1, hno.2.2.2]
          have g0 := (tF.set0 (.int .i64 (0))).cells.1
          have g1 := ((tF.set0 (.int .i64 (0))).set1 (.int .i64 (0))).cells.2.1
          have g2 := (((tF.set0 (.int .i64 (0))).set1 (.int .i64 (0))).set2 (.int .i64 (0))).cells.2.2
          refine bodyPost_ret (v := .tuple #[(Value.agg #[Value.int IntKind.i64 (0), Value.int IntKind.i64 (0), Value.int IntKind.i64 (0)]), .bool false]) (by simp [results, Tryd.results18, go_sem, g0, g1, g2]) rfl ⟨rfl, ?_⟩
          exact ((hBF.setCell (Nat.le_refl _) _).setCell (Nat.le_refl _) _).setCell (Nat.le_refl _) _
      · have hsp : Sp1 s.data.toList x.data.toList y.data.toList := by rcases hS with ⟨h, _⟩ | ⟨_, h, _⟩ | ⟨h, _⟩ <;> first | exact h | cases h
        cases hp : pnum x.data.toList with
        | none =>
          have hno := pa_no (sp1_none_x hsp hp)
          cases hy : pnum y.data.toList with
          | none =>
            go_wp2_with fail
            go_at_call 33
            refine (sp_no x bx hp _).mono ?_
            rintro e w1 ⟨rfl, hb1⟩
            have tA1 := tA.below hb1
            have tB1 := tB.below hb1
            have bB1 := bB.trans (hb1.mono bB.size)
            obtain ⟨c0, c1, c2⟩ := tB1.cells
            clear tA tB bB hb1
            go_wp2_with fail
            go_at_call 33
            refine (sp_no y by_ hy _).mono ?_
            rintro e w2 ⟨rfl, hb2⟩
            have tA2 := tA1.below hb2
            have tB2 := tB1.below hb2
            have bB2 := bB1.trans (hb2.mono bB1.size)
            obtain ⟨c0, c1, c2⟩ := tB2.cells
            clear tA1 tB1 bB1 hb2
            have tF := tA2.alloc (.cells #[.int .i64 (0), .int .i64 (0), .int .i64 (0)] 25)
            have hBF := bB2.alloc bB2.size (.cells #[.int .i64 (0), .int .i64 (0), .int .i64 (0)] 25)
            obtain ⟨a0, a1, a2⟩ := tF.cells
            obtain ⟨f0, f1, f2⟩ := tF.frozen
            go_wp2_with fail
            rw [hno.1, hno.2.1, hno.2.2.1, hno.2.2.2]
            have g0 := (tF.set0 (.int .i64 (0))).cells.1
            have g1 := ((tF.set0 (.int .i64 (0))).set1 (.int .i64 (0))).cells.2.1
            have g2 := (((tF.set0 (.int .i64 (0))).set1 (.int .i64 (0))).set2 (.int .i64 (0))).cells.2.2
            refine bodyPost_ret (v := .tuple #[(Value.agg #[Value.int IntKind.i64 (0), Value.int IntKind.i64 (0), Value.int IntKind.i64 (0)]), .bool false]) (by simp [results, Tryd.results18, go_sem, g0, g1, g2]) rfl ⟨rfl, ?_⟩
            exact ((hBF.setCell (Nat.le_refl _) _).setCell (Nat.le_refl _) _).setCell (Nat.le_refl _) _
          | some n =>
            go_wp2_with fail
            go_at_call 33
            refine (sp_no x bx hp _).mono ?_
            rintro e w1 ⟨rfl, hb1⟩
            have tA1 := tA.below hb1
            have tB1 := tB.below hb1
            have bB1 := bB.trans (hb1.mono bB.size)
            obtain ⟨c0, c1, c2⟩ := tB1.cells
            clear tA tB bB hb1
            go_wp2_with fail
            go_at_call 33
            refine (sp_yes y by_ hy _).mono ?_
            rintro e w2 ⟨rfl, hb2⟩
            have tA2 := tA1.below hb2
            have tB2 := tB1.below hb2
            have bB2 := bB1.trans (hb2.mono bB1.size)
            obtain ⟨c0, c1, c2⟩ := tB2.cells
            clear tA1 tB1 bB1 hb2
            have tF := tA2.alloc (.cells #[.int .i64 (0), .int .i64 (n), .int .i64 (0)] 25)
            have hBF := bB2.alloc bB2.size (.cells #[.int .i64 (0), .int .i64 (n), .int .i64 (0)] 25)
            obtain ⟨a0, a1, a2⟩ := tF.cells
            obtain ⟨f0, f1, f2⟩ := tF.frozen
            go_wp2_with fail
            rw [hno.1, hno.2.1, hno.2.2.1, hno.2.2.2]
            have g0 := (tF.set0 (.int .i64 (0))).cells.1
            have g1 := ((tF.set0 (.int .i64 (0))).set1 (.int .i64 (0))).cells.2.1
            have g2 := (((tF.set0 (.int .i64 (0))).set1 (.int .i64 (0))).set2 (.int .i64 (0))).cells.2.2
            refine bodyPost_ret (v := .tuple #[(Value.agg #[Value.int IntKind.i64 (0), Value.int IntKind.i64 (0), Value.int IntKind.i64 (0)]), .bool false]) (by simp [results, Tryd.results18, go_sem, g0, g1, g2]) rfl ⟨rfl, ?_⟩
            exact ((hBF.setCell (Nat.le_refl _) _).setCell (Nat.le_refl _) _).setCell (Nat.le_refl _) _
        | some m =>
          have em := pnum_le hp
          cases hy : pnum y.data.toList with
          | none =>
            have hno := pa_no (sp1_none_y hsp hy)
            go_wp2_with fail
            go_at_call 33
            refine (sp_yes x bx hp _).mono ?_
            rintro e w1 ⟨rfl, hb1⟩
            have tA1 := tA.below hb1
            have tB1 := tB.below hb1
            have bB1 := bB.trans (hb1.mono bB.size)
            obtain ⟨c0, c1, c2⟩ := tB1.cells
            clear tA tB bB hb1
            go_wp2_with fail
            go_at_call 33
            refine (sp_no y by_ hy _).mono ?_
            rintro e w2 ⟨rfl, hb2⟩
            have tA2 := tA1.below hb2
            have tB2 := tB1.below hb2
            have bB2 := bB1.trans (hb2.mono bB1.size)
            obtain ⟨c0, c1, c2⟩ := tB2.cells
            clear tA1 tB1 bB1 hb2
            have tF := tA2.alloc (.cells #[.int .i64 (m), .int .i64 (0), .int .i64 (0)] 25)
            have hBF := bB2.alloc bB2.size (.cells #[.int .i64 (m), .int .i64 (0), .int .i64 (0)] 25)
            obtain ⟨a0, a1, a2⟩ := tF.cells
            obtain ⟨f0, f1, f2⟩ := tF.frozen
            go_wp2_with fail
            rw [hno.1, hno.2.1, hno.2.2.1, hno.2.2.2]
            have g0 := (tF.set0 (.int .i64 (0))).cells.1
            have g1 := ((tF.set0 (.int .i64 (0))).set1 (.int .i64 (0))).cells.2.1
            have g2 := (((tF.set0 (.int .i64 (0))).set1 (.int .i64 (0))).set2 (.int .i64 (0))).cells.2.2
            refine bodyPost_ret (v := .tuple #[(Value.agg #[Value.int IntKind.i64 (0), Value.int IntKind.i64 (0), Value.int IntKind.i64 (0)]), .bool false]) (by simp [results, Tryd.results18, go_sem, g0, g1, g2]) rfl ⟨rfl, ?_⟩
            exact ((hBF.setCell (Nat.le_refl _) _).setCell (Nat.le_refl _) _).setCell (Nat.le_refl _) _
          | some n =>
            have en := pnum_le hy
            by_cases heq : atext (m) (n) (0) = s.data.toList
            · obtain ⟨r0, r1, r2, r3⟩ := pa_yes (of_text (sp1_ne hsp) heq) heq
              have hcmp : (atext (m) (n) (0) == s.toList) = true := by rw [Lib.toList_data, heq]; simp
              go_wp2_with fail
              go_at_call 33
              refine (sp_yes x bx hp _).mono ?_
              rintro e w1 ⟨rfl, hb1⟩
              have tA1 := tA.below hb1
              have tB1 := tB.below hb1
              have bB1 := bB.trans (hb1.mono bB.size)
              obtain ⟨c0, c1, c2⟩ := tB1.cells
              clear tA tB bB hb1
              go_wp2_with fail
              go_at_call 33
              refine (sp_yes y by_ hy _).mono ?_
              rintro e w2 ⟨rfl, hb2⟩
              have tA2 := tA1.below hb2
              have tB2 := tB1.below hb2
              have bB2 := bB1.trans (hb2.mono bB1.size)
              obtain ⟨c0, c1, c2⟩ := tB2.cells
              clear tA1 tB1 bB1 hb2
              go_wp2_with (go_at_call 16; refine (text_spec _ _ _ _ (by omega) (by omega) (by omega) (by omega) (by omega) (by omega)).mono ?_; rintro e w9 ⟨rfl, hb9⟩; have tF := (tA2.alloc _).below hb9; have hBF := (bB2.alloc bB2.size _).trans (hb9.mono (bB2.alloc bB2.size _).size); obtain ⟨a0, a1, a2⟩ := tF.cells; obtain ⟨f0, f1, f2⟩ := tF.frozen; obtain ⟨n0, n1, n2⟩ := ((Trio.new _ _ _ _ w2).below hb9).cells)
              rw [r0, r1, r2, r3]
              have g0 := (tF.set0 (.int .i64 (m))).cells.1
              have g1 := ((tF.set0 (.int .i64 (m))).set1 (.int .i64 (n))).cells.2.1
              have g2 := (((tF.set0 (.int .i64 (m))).set1 (.int .i64 (n))).set2 (.int .i64 (0))).cells.2.2
              refine bodyPost_ret (v := .tuple #[(Value.agg #[Value.int IntKind.i64 (m), Value.int IntKind.i64 (n), Value.int IntKind.i64 (0)]), .bool true]) (by simp [results, Tryd.results18, go_sem, g0, g1, g2]) rfl ⟨rfl, ?_⟩
              exact ((hBF.setCell (Nat.le_refl _) _).setCell (Nat.le_refl _) _).setCell (Nat.le_refl _) _
            · have hno := pa_no (sp1_none hsp hp hy heq)
              have hcmp : (atext (m) (n) (0) == s.toList) = false := by rw [Lib.toList_data]; simpa using heq
              go_wp2_with fail
              go_at_call 33
              refine (sp_yes x bx hp _).mono ?_
              rintro e w1 ⟨rfl, hb1⟩
              have tA1 := tA.below hb1
              have tB1 := tB.below hb1
              have bB1 := bB.trans (hb1.mono bB.size)
              obtain ⟨c0, c1, c2⟩ := tB1.cells
              clear tA tB bB hb1
              go_wp2_with fail
              go_at_call 33
              refine (sp_yes y by_ hy _).mono ?_
              rintro e w2 ⟨rfl, hb2⟩
              have tA2 := tA1.below hb2
              have tB2 := tB1.below hb2
              have bB2 := bB1.trans (hb2.mono bB1.size)
              obtain ⟨c0, c1, c2⟩ := tB2.cells
              clear tA1 tB1 bB1 hb2
              go_wp2_with (go_at_call 16; refine (text_spec _ _ _ _ (by omega) (by omega) (by omega) (by omega) (by omega) (by omega)).mono ?_; rintro e w9 ⟨rfl, hb9⟩; have tF := (tA2.alloc _).below hb9; have hBF := (bB2.alloc bB2.size _).trans (hb9.mono (bB2.alloc bB2.size _).size); obtain ⟨a0, a1, a2⟩ := tF.cells; obtain ⟨f0, f1, f2⟩ := tF.frozen; obtain ⟨n0, n1, n2⟩ := ((Trio.new _ _ _ _ w2).below hb9).cells)
              rw [hno.1, hno.2.1, hno.2.2.1, hno.2.2.2]
              have g0 := (tF.set0 (.int .i64 (0))).cells.1
              have g1 := ((tF.set0 (.int .i64 (0))).set1 (.int .i64 (0))).cells.2.1
              have g2 := (((tF.set0 (.int .i64 (0))).set1 (.int .i64 (0))).set2 (.int .i64 (0))).cells.2.2
              refine bodyPost_ret (v := .tuple #[(Value.agg #[Value.int IntKind.i64 (0), Value.int IntKind.i64 (0), Value.int IntKind.i64 (0)]), .bool false]) (by simp [results, Tryd.results18, go_sem, g0, g1, g2]) rfl ⟨rfl, ?_⟩
              exact ((hBF.setCell (Nat.le_refl _) _).setCell (Nat.le_refl _) _).setCell (Nat.le_refl _) _
      · have hsp : Sp2 s.data.toList x.data.toList y.data.toList z.data.toList := by rcases hS with ⟨h, _⟩ | ⟨h, _⟩ | ⟨_, h⟩ <;> first | exact h | cases h
        cases hp : pnum x.data.toList with
        | none =>
          have hno := pa_no (sp2_none_x hsp hp)
          cases hy : pnum y.data.toList with
          | none =>
            cases hz : pnum z.data.toList with
            | none =>
              go_wp2_with fail
              go_at_call 33
              refine (sp_no x bx hp _).mono ?_
              rintro e w1 ⟨rfl, hb1⟩
              have tA1 := tA.below hb1
              have tB1 := tB.below hb1
              have bB1 := bB.trans (hb1.mono bB.size)
              obtain ⟨c0, c1, c2⟩ := tB1.cells
              clear tA tB bB hb1
              go_wp2_with fail
              go_at_call 33
              refine (sp_no y by_ hy _).mono ?_
              rintro e w2 ⟨rfl, hb2⟩
              have tA2 := tA1.below hb2
              have tB2 := tB1.below hb2
              have bB2 := bB1.trans (hb2.mono bB1.size)
              obtain ⟨c0, c1, c2⟩ := tB2.cells
              clear tA1 tB1 bB1 hb2
              go_wp2_with fail
              go_at_call 33
              refine (sp_no z bz hz _).mono ?_
              rintro e w3 ⟨rfl, hb3⟩
              have tA3 := tA2.below hb3
              have tB3 := tB2.below hb3
              have bB3 := bB2.trans (hb3.mono bB2.size)
              obtain ⟨c0, c1, c2⟩ := tB3.cells
              clear tA2 tB2 bB2 hb3
              have tF := tA3.alloc (.cells #[.int .i64 (0), .int .i64 (0), .int .i64 (0)] 25)
              have hBF := bB3.alloc bB3.size (.cells #[.int .i64 (0), .int .i64 (0), .int .i64 (0)] 25)
              obtain ⟨a0, a1, a2⟩ := tF.cells
              obtain ⟨f0, f1, f2⟩ := tF.frozen
              go_wp2_with fail
              rw [hno.1, hno.2.1, hno.2.2.1, hno.2.2.2]
              have g0 := (tF.set0 (.int .i64 (0))).cells.1
              have g1 := ((tF.set0 (.int .i64 (0))).set1 (.int .i64 (0))).cells.2.1
              have g2 := (((tF.set0 (.int .i64 (0))).set1 (.int .i64 (0))).set2 (.int .i64 (0))).cells.2.2
              refine bodyPost_ret (v := .tuple #[(Value.agg #[Value.int IntKind.i64 (0), Value.int IntKind.i64 (0), Value.int IntKind.i64 (0)]), .bool false]) (by simp [results, Tryd.results18, go_sem, g0, g1, g2]) rfl ⟨rfl, ?_⟩
              exact ((hBF.setCell (Nat.le_refl _) _).setCell (Nat.le_refl _) _).setCell (Nat.le_refl _) _
            | some r =>
              go_wp2_with fail
              go_at_call 33
              refine (sp_no x bx hp _).mono ?_
              rintro e w1 ⟨rfl, hb1⟩
              have tA1 := tA.below hb1
              have tB1 := tB.below hb1
              have bB1 := bB.trans (hb1.mono bB.size)
              obtain ⟨c0, c1, c2⟩ := tB1.cells
              clear tA tB bB hb1
              go_wp2_with fail
              go_at_call 33
              refine (sp_no y by_ hy _).mono ?_
              rintro e w2 ⟨rfl, hb2⟩
              have tA2 := tA1.below hb2
              have tB2 := tB1.below hb2
              have bB2 := bB1.trans (hb2.mono bB1.size)
              obtain ⟨c0, c1, c2⟩ := tB2.cells
              clear tA1 tB1 bB1 hb2
              go_wp2_with fail
              go_at_call 33
              refine (sp_yes z bz hz _).mono ?_
              rintro e w3 ⟨rfl, hb3⟩
              have tA3 := tA2.below hb3
              have tB3 := tB2.below hb3
              have bB3 := bB2.trans (hb3.mono bB2.size)
              obtain ⟨c0, c1, c2⟩ := tB3.cells
              clear tA2 tB2 bB2 hb3
              have tF := tA3.alloc (.cells #[.int .i64 (0), .int .i64 (0), .int .i64 (r)] 25)
              have hBF := bB3.alloc bB3.size (.cells #[.int .i64 (0), .int .i64 (0), .int .i64 (r)] 25)
              obtain ⟨a0, a1, a2⟩ := tF.cells
              obtain ⟨f0, f1, f2⟩ := tF.frozen
              go_wp2_with fail
              rw [hno.1, hno.2.1, hno.2.2.1, hno.2.2.2]
              have g0 := (tF.set0 (.int .i64 (0))).cells.1
              have g1 := ((tF.set0 (.int .i64 (0))).set1 (.int .i64 (0))).cells.2.1
              have g2 := (((tF.set0 (.int .i64 (0))).set1 (.int .i64 (0))).set2 (.int .i64 (0))).cells.2.2
              refine bodyPost_ret (v := .tuple #[(Value.agg #[Value.int IntKind.i64 (0), Value.int IntKind.i64 (0), Value.int IntKind.i64 (0)]), .bool false]) (by simp [results, Tryd.results18, go_sem, g0, g1, g2]) rfl ⟨rfl, ?_⟩
              exact ((hBF.setCell (Nat.le_refl _) _).setCell (Nat.le_refl _) _).setCell (Nat.le_refl _) _
          | some n =>
            have en := pnum_le hy
            cases hz : pnum z.data.toList with
            | none =>
              go_wp2_with fail
              go_at_call 33
              refine (sp_no x bx hp _).mono ?_
              rintro e w1 ⟨rfl, hb1⟩
              have tA1 := tA.below hb1
              have tB1 := tB.below hb1
              have bB1 := bB.trans (hb1.mono bB.size)
              obtain ⟨c0, c1, c2⟩ := tB1.cells
              clear tA tB bB hb1
              go_wp2_with fail
              go_at_call 33
              refine (sp_yes y by_ hy _).mono ?_
              rintro e w2 ⟨rfl, hb2⟩
              have tA2 := tA1.below hb2
              have tB2 := tB1.below hb2
              have bB2 := bB1.trans (hb2.mono bB1.size)
              obtain ⟨c0, c1, c2⟩ := tB2.cells
              clear tA1 tB1 bB1 hb2
              go_wp2_with fail
              go_at_call 33
              refine (sp_no z bz hz _).mono ?_
              rintro e w3 ⟨rfl, hb3⟩
              have tA3 := tA2.below hb3
              have tB3 := tB2.below hb3
              have bB3 := bB2.trans (hb3.mono bB2.size)
              obtain ⟨c0, c1, c2⟩ := tB3.cells
              clear tA2 tB2 bB2 hb3
              have tF := tA3.alloc (.cells #[.int .i64 (0), .int .i64 (n), .int .i64 (0)] 25)
              have hBF := bB3.alloc bB3.size (.cells #[.int .i64 (0), .int .i64 (n), .int .i64 (0)] 25)
              obtain ⟨a0, a1, a2⟩ := tF.cells
              obtain ⟨f0, f1, f2⟩ := tF.frozen
              go_wp2_with fail
              rw [hno.1, hno.2.1, hno.2.2.1, hno.2.2.2]
              have g0 := (tF.set0 (.int .i64 (0))).cells.1
              have g1 := ((tF.set0 (.int .i64 (0))).set1 (.int .i64 (0))).cells.2.1
              have g2 := (((tF.set0 (.int .i64 (0))).set1 (.int .i64 (0))).set2 (.int .i64 (0))).cells.2.2
              refine bodyPost_ret (v := .tuple #[(Value.agg #[Value.int IntKind.i64 (0), Value.int IntKind.i64 (0), Value.int IntKind.i64 (0)]), .bool false]) (by simp [results, Tryd.results18, go_sem, g0, g1, g2]) rfl ⟨rfl, ?_⟩
              exact ((hBF.setCell (Nat.le_refl _) _).setCell (Nat.le_refl _) _).setCell (Nat.le_refl _) _
            | some r =>
              go_wp2_with fail
              go_at_call 33
              refine (sp_no x bx hp _).mono ?_
              rintro e w1 ⟨rfl, hb1⟩
              have tA1 := tA.below hb1
              have tB1 := tB.below hb1
              have bB1 := bB.trans (hb1.mono bB.size)
              obtain ⟨c0, c1, c2⟩ := tB1.cells
              clear tA tB bB hb1
              go_wp2_with fail
              go_at_call 33
              refine (sp_yes y by_ hy _).mono ?_
              rintro e w2 ⟨rfl, hb2⟩
              have tA2 := tA1.below hb2
              have tB2 := tB1.below hb2
              have bB2 := bB1.trans (hb2.mono bB1.size)
              obtain ⟨c0, c1, c2⟩ := tB2.cells
              clear tA1 tB1 bB1 hb2
              go_wp2_with fail
              go_at_call 33
              refine (sp_yes z bz hz _).mono ?_
              rintro e w3 ⟨rfl, hb3⟩
              have tA3 := tA2.below hb3
              have tB3 := tB2.below hb3
              have bB3 := bB2.trans (hb3.mono bB2.size)
              obtain ⟨c0, c1, c2⟩ := tB3.cells
              clear tA2 tB2 bB2 hb3
              have tF := tA3.alloc (.cells #[.int .i64 (0), .int .i64 (n), .int .i64 (r)] 25)
              have hBF := bB3.alloc bB3.size (.cells #[.int .i64 (0), .int .i64 (n), .int .i64 (r)] 25)
              obtain ⟨a0, a1, a2⟩ := tF.cells
              obtain ⟨f0, f1, f2⟩ := tF.frozen
              go_wp2_with fail
              rw [hno.1, hno.2.1, hno.2.2.1, hno.2.2.2]
              have g0 := (tF.set0 (.int .i64 (0))).cells.1
              have g1 := ((tF.set0 (.int .i64 (0))).set1 (.int .i64 (0))).cells.2.1
              have g2 := (((tF.set0 (.int .i64 (0))).set1 (.int .i64 (0))).set2 (.int .i64 (0))).cells.2.2
              refine bodyPost_ret (v := .tuple #[(Value.agg #[Value.int IntKind.i64 (0), Value.int IntKind.i64 (0), Value.int IntKind.i64 (0)]), .bool false]) (by simp [results, Tryd.results18, go_sem, g0, g1, g2]) rfl ⟨rfl, ?_⟩
              exact ((hBF.setCell (Nat.le_refl _) _).setCell (Nat.le_refl _) _).setCell (Nat.le_refl _) _
        | some m =>
          have em := pnum_le hp
          cases hy : pnum y.data.toList with
          | none =>
            have hno := pa_no (sp2_none_y hsp hy)
            cases hz : pnum z.data.toList with
            | none =>
              go_wp2_with fail
              go_at_call 33
              refine (sp_yes x bx hp _).mono ?_
              rintro e w1 ⟨rfl, hb1⟩
              have tA1 := tA.below hb1
              have tB1 := tB.below hb1
              have bB1 := bB.trans (hb1.mono bB.size)
              obtain ⟨c0, c1, c2⟩ := tB1.cells
              clear tA tB bB hb1
              go_wp2_with fail
              go_at_call 33
              refine (sp_no y by_ hy _).mono ?_
              rintro e w2 ⟨rfl, hb2⟩
              have tA2 := tA1.below hb2
              have tB2 := tB1.below hb2
              have bB2 := bB1.trans (hb2.mono bB1.size)
              obtain ⟨c0, c1, c2⟩ := tB2.cells
              clear tA1 tB1 bB1 hb2
              go_wp2_with fail
              go_at_call 33
              refine (sp_no z bz hz _).mono ?_
              rintro e w3 ⟨rfl, hb3⟩
              have tA3 := tA2.below hb3
              have tB3 := tB2.below hb3
              have bB3 := bB2.trans (hb3.mono bB2.size)
              obtain ⟨c0, c1, c2⟩ := tB3.cells
              clear tA2 tB2 bB2 hb3
              have tF := tA3.alloc (.cells #[.int .i64 (m), .int .i64 (0), .int .i64 (0)] 25)
              have hBF := bB3.alloc bB3.size (.cells #[.int .i64 (m), .int .i64 (0), .int .i64 (0)] 25)
              obtain ⟨a0, a1, a2⟩ := tF.cells
              obtain ⟨f0, f1, f2⟩ := tF.frozen
              go_wp2_with fail
              rw [hno.1, hno.2.1, hno.2.2.1, hno.2.2.2]
              have g0 := (tF.set0 (.int .i64 (0))).cells.1
              have g1 := ((tF.set0 (.int .i64 (0))).set1 (.int .i64 (0))).cells.2.1
              have g2 := (((tF.set0 (.int .i64 (0))).set1 (.int .i64 (0))).set2 (.int .i64 (0))).cells.2.2
              refine bodyPost_ret (v := .tuple #[(Value.agg #[Value.int IntKind.i64 (0), Value.int IntKind.i64 (0), Value.int IntKind.i64 (0)]), .bool false]) (by simp [results, Tryd.results18, go_sem, g0, g1, g2]) rfl ⟨rfl, ?_⟩
              exact ((hBF.setCell (Nat.le_refl _) _).setCell (Nat.le_refl _) _).setCell (Nat.le_refl _) _
            | some r =>
              go_wp2_with fail
              go_at_call 33
              refine (sp_yes x bx hp _).mono ?_
              rintro e w1 ⟨rfl, hb1⟩
              have tA1 := tA.below hb1
              have tB1 := tB.below hb1
              have bB1 := bB.trans (hb1.mono bB.size)
              obtain ⟨c0, c1, c2⟩ := tB1.cells
              clear tA tB bB hb1
              go_wp2_with fail
              go_at_call 33
              refine (sp_no y by_ hy _).mono ?_
              rintro e w2 ⟨rfl, hb2⟩
              have tA2 := tA1.below hb2
              have tB2 := tB1.below hb2
              have bB2 := bB1.trans (hb2.mono bB1.size)
              obtain ⟨c0, c1, c2⟩ := tB2.cells
              clear tA1 tB1 bB1 hb2
              go_wp2_with fail
              go_at_call 33
              refine (sp_yes z bz hz _).mono ?_
              rintro e w3 ⟨rfl, hb3⟩
              have tA3 := tA2.below hb3
              have tB3 := tB2.below hb3
              have bB3 := bB2.trans (hb3.mono bB2.size)
              obtain ⟨c0, c1, c2⟩ := tB3.cells
              clear tA2 tB2 bB2 hb3
              have tF := tA3.alloc (.cells #[.int .i64 (m), .int .i64 (0), .int .i64 (r)] 25)
              have hBF := bB3.alloc bB3.size (.cells #[.int .i64 (m), .int .i64 (0), .int .i64 (r)] 25)
              obtain ⟨a0, a1, a2⟩ := tF.cells
              obtain ⟨f0, f1, f2⟩ := tF.frozen
              go_wp2_with fail
              rw [hno.1, hno.2.1, hno.2.2.1, hno.2.2.2]
              have g0 := (tF.set0 (.int .i64 (0))).cells.1
              have g1 := ((tF.set0 (.int .i64 (0))).set1 (.int .i64 (0))).cells.2.1
              have g2 := (((tF.set0 (.int .i64 (0))).set1 (.int .i64 (0))).set2 (.int .i64 (0))).cells.2.2
              refine bodyPost_ret (v := .tuple #[(Value.agg #[Value.int IntKind.i64 (0), Value.int IntKind.i64 (0), Value.int IntKind.i64 (0)]), .bool false]) (by simp [results, Tryd.results18, go_sem, g0, g1, g2]) rfl ⟨rfl, ?_⟩
              exact ((hBF.setCell (Nat.le_refl _) _).setCell (Nat.le_refl _) _).setCell (Nat.le_refl _) _
          | some n =>
            have en := pnum_le hy
            cases hz : pnum z.data.toList with
            | none =>
              have hno := pa_no (sp2_none_z hsp hz)
              go_wp2_with fail
              go_at_call 33
              refine (sp_yes x bx hp _).mono ?_
              rintro e w1 ⟨rfl, hb1⟩
              have tA1 := tA.below hb1
              have tB1 := tB.below hb1
              have bB1 := bB.trans (hb1.mono bB.size)
              obtain ⟨c0, c1, c2⟩ := tB1.cells
              clear tA tB bB hb1
              go_wp2_with fail
              go_at_call 33
              refine (sp_yes y by_ hy _).mono ?_
              rintro e w2 ⟨rfl, hb2⟩
              have tA2 := tA1.below hb2
              have tB2 := tB1.below hb2
              have bB2 := bB1.trans (hb2.mono bB1.size)
              obtain ⟨c0, c1, c2⟩ := tB2.cells
              clear tA1 tB1 bB1 hb2
              go_wp2_with fail
              go_at_call 33
              refine (sp_no z bz hz _).mono ?_
              rintro e w3 ⟨rfl, hb3⟩
              have tA3 := tA2.below hb3
              have tB3 := tB2.below hb3
              have bB3 := bB2.trans (hb3.mono bB2.size)
              obtain ⟨c0, c1, c2⟩ := tB3.cells
              clear tA2 tB2 bB2 hb3
              have tF := tA3.alloc (.cells #[.int .i64 (m), .int .i64 (n), .int .i64 (0)] 25)
              have hBF := bB3.alloc bB3.size (.cells #[.int .i64 (m), .int .i64 (n), .int .i64 (0)] 25)
              obtain ⟨a0, a1, a2⟩ := tF.cells
              obtain ⟨f0, f1, f2⟩ := tF.frozen
              go_wp2_with fail
              rw [hno.1, hno.2.1, hno.2.2.1, hno.2.2.2]
              have g0 := (tF.set0 (.int .i64 (0))).cells.1
              have g1 := ((tF.set0 (.int .i64 (0))).set1 (.int .i64 (0))).cells.2.1
              have g2 := (((tF.set0 (.int .i64 (0))).set1 (.int .i64 (0))).set2 (.int .i64 (0))).cells.2.2
              refine bodyPost_ret (v := .tuple #[(Value.agg #[Value.int IntKind.i64 (0), Value.int IntKind.i64 (0), Value.int IntKind.i64 (0)]), .bool false]) (by simp [results, Tryd.results18, go_sem, g0, g1, g2]) rfl ⟨rfl, ?_⟩
              exact ((hBF.setCell (Nat.le_refl _) _).setCell (Nat.le_refl _) _).setCell (Nat.le_refl _) _
            | some r =>
              have er := pnum_le hz
              by_cases heq : atext (m) (n) (r) = s.data.toList
              · obtain ⟨r0, r1, r2, r3⟩ := pa_yes (of_text (sp2_ne hsp) heq) heq
                have hcmp : (atext (m) (n) (r) == s.toList) = true := by rw [Lib.toList_data, heq]; simp
                go_wp2_with fail
                go_at_call 33
                refine (sp_yes x bx hp _).mono ?_
                rintro e w1 ⟨rfl, hb1⟩
                have tA1 := tA.below hb1
                have tB1 := tB.below hb1
                have bB1 := bB.trans (hb1.mono bB.size)
                obtain ⟨c0, c1, c2⟩ := tB1.cells
                clear tA tB bB hb1
                go_wp2_with fail
                go_at_call 33
                refine (sp_yes y by_ hy _).mono ?_
                rintro e w2 ⟨rfl, hb2⟩
                have tA2 := tA1.below hb2
                have tB2 := tB1.below hb2
                have bB2 := bB1.trans (hb2.mono bB1.size)
                obtain ⟨c0, c1, c2⟩ := tB2.cells
                clear tA1 tB1 bB1 hb2
                go_wp2_with fail
                go_at_call 33
                refine (sp_yes z bz hz _).mono ?_
                rintro e w3 ⟨rfl, hb3⟩
                have tA3 := tA2.below hb3
                have tB3 := tB2.below hb3
                have bB3 := bB2.trans (hb3.mono bB2.size)
                obtain ⟨c0, c1, c2⟩ := tB3.cells
                clear tA2 tB2 bB2 hb3
                go_wp2_with (go_at_call 16; refine (text_spec _ _ _ _ (by omega) (by omega) (by omega) (by omega) (by omega) (by omega)).mono ?_; rintro e w9 ⟨rfl, hb9⟩; have tF := (tA3.alloc _).below hb9; have hBF := (bB3.alloc bB3.size _).trans (hb9.mono (bB3.alloc bB3.size _).size); obtain ⟨a0, a1, a2⟩ := tF.cells; obtain ⟨f0, f1, f2⟩ := tF.frozen; obtain ⟨n0, n1, n2⟩ := ((Trio.new _ _ _ _ w3).below hb9).cells)
                rw [r0, r1, r2, r3]
                have g0 := (tF.set0 (.int .i64 (m))).cells.1
                have g1 := ((tF.set0 (.int .i64 (m))).set1 (.int .i64 (n))).cells.2.1
                have g2 := (((tF.set0 (.int .i64 (m))).set1 (.int .i64 (n))).set2 (.int .i64 (r))).cells.2.2
                refine bodyPost_ret (v := .tuple #[(Value.agg #[Value.int IntKind.i64 (m), Value.int IntKind.i64 (n), Value.int IntKind.i64 (r)]), .bool true]) (by simp [results, Tryd.results18, go_sem, g0, g1, g2]) rfl ⟨rfl, ?_⟩
                exact ((hBF.setCell (Nat.le_refl _) _).setCell (Nat.le_refl _) _).setCell (Nat.le_refl _) _
              · have hno := pa_no (sp2_none hsp hp hy hz heq)
                have hcmp : (atext (m) (n) (r) == s.toList) = false := by rw [Lib.toList_data]; simpa using heq
                go_wp2_with fail
                go_at_call 33
                refine (sp_yes x bx hp _).mono ?_
                rintro e w1 ⟨rfl, hb1⟩
                have tA1 := tA.below hb1
                have tB1 := tB.below hb1
                have bB1 := bB.trans (hb1.mono bB.size)
                obtain ⟨c0, c1, c2⟩ := tB1.cells
                clear tA tB bB hb1
                go_wp2_with fail
                go_at_call 33
                refine (sp_yes y by_ hy _).mono ?_
                rintro e w2 ⟨rfl, hb2⟩
                have tA2 := tA1.below hb2
                have tB2 := tB1.below hb2
                have bB2 := bB1.trans (hb2.mono bB1.size)
                obtain ⟨c0, c1, c2⟩ := tB2.cells
                clear tA1 tB1 bB1 hb2
                go_wp2_with fail
                go_at_call 33
                refine (sp_yes z bz hz _).mono ?_
                rintro e w3 ⟨rfl, hb3⟩
                have tA3 := tA2.below hb3
                have tB3 := tB2.below hb3
                have bB3 := bB2.trans (hb3.mono bB2.size)
                obtain ⟨c0, c1, c2⟩ := tB3.cells
                clear tA2 tB2 bB2 hb3
                go_wp2_with (go_at_call 16; refine (text_spec _ _ _ _ (by omega) (by omega) (by omega) (by omega) (by omega) (by omega)).mono ?_; rintro e w9 ⟨rfl, hb9⟩; have tF := (tA3.alloc _).below hb9; have hBF := (bB3.alloc bB3.size _).trans (hb9.mono (bB3.alloc bB3.size _).size); obtain ⟨a0, a1, a2⟩ := tF.cells; obtain ⟨f0, f1, f2⟩ := tF.frozen; obtain ⟨n0, n1, n2⟩ := ((Trio.new _ _ _ _ w3).below hb9).cells)
                rw [hno.1, hno.2.1, hno.2.2.1, hno.2.2.2]
                have g0 := (tF.set0 (.int .i64 (0))).cells.1
                have g1 := ((tF.set0 (.int .i64 (0))).set1 (.int .i64 (0))).cells.2.1
                have g2 := (((tF.set0 (.int .i64 (0))).set1 (.int .i64 (0))).set2 (.int .i64 (0))).cells.2.2
                refine bodyPost_ret (v := .tuple #[(Value.agg #[Value.int IntKind.i64 (0), Value.int IntKind.i64 (0), Value.int IntKind.i64 (0)]), .bool false]) (by simp [results, Tryd.results18, go_sem, g0, g1, g2]) rfl ⟨rfl, ?_⟩
                exact ((hBF.setCell (Nat.le_refl _) _).setCell (Nat.le_refl _) _).setCell (Nat.le_refl _) _
end Go.Proofs.YtoiaigmfoglcbaaDoor.Adr
