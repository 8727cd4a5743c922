/-
  ParseAddress of the program: the address whose text it is, or none.
  Conditions: the text takes no more than 2^48 bytes; the library's tables and its two errors hold what their initialisers lay.
-/
import Derived.Test.YtoiaigmfoglcbaaDoorSplit
import Derived.Test.YtoiaigmfoglcbaaDoorTrio
import Derived.Test.YtoiaigmfoglcbaaDoorAddrText
import Derived.Test.YtoiaigmfoglcbaaDoorParse
import Derived.Lib.Hide
namespace Go.Proofs.YtoiaigmfoglcbaaDoor.Adr
open Go Go.RowKit Go.Proofs.YtoiaigmfoglcbaaDoor.Fmt

/-- The number of the k-th piece; 0 where there is none. -/
def pv (xs : List ByteArray) (k : Nat) : Int := ((xs[k]?).map (fun x => pval x.data.toList)).getD 0
/-- What the parts hold when j pieces are read. -/
def upto (xs : List ByteArray) (j k : Nat) : Int := if k < j then pv xs k else 0
/-- The first j pieces are numbers. -/
def Nums (xs : List ByteArray) (j : Nat) : Prop := ∀ k (h : k < xs.length), k < j → (pnum xs[k].data.toList).isSome = true
theorem pval_range (l : List UInt8) : 0 ≤ pval l ∧ pval l ≤ 1000000000000 := by
  unfold pval
  cases h : pnum l with
  | none => exact ⟨by decide, by decide⟩
  | some m => obtain ⟨_, _, h2, _⟩ := pnum_some h; exact ⟨by simp, by simp; omega⟩
theorem pv_range (xs : List ByteArray) (k : Nat) : 0 ≤ pv xs k ∧ pv xs k ≤ 1000000000000 := by
  unfold pv
  cases xs[k]? with
  | none => exact ⟨by decide, by decide⟩
  | some x => exact pval_range _
theorem upto_range (xs : List ByteArray) (j k : Nat) : 0 ≤ upto xs j k ∧ upto xs j k ≤ 1000000000000 := by
  unfold upto; split
  · exact pv_range _ _
  · exact ⟨by decide, by decide⟩
theorem upto_zero (xs : List ByteArray) (k : Nat) : upto xs 0 k = 0 := by unfold upto; rw [if_neg (by omega)]
theorem upto_all (xs : List ByteArray) (k : Nat) : upto xs xs.length k = pv xs k := by
  unfold upto; split
  · rfl
  · unfold pv; rw [List.getElem?_eq_none (by omega)]; rfl
theorem upto_here {xs : List ByteArray} {j : Nat} (h : j < xs.length) : upto xs (j + 1) j = pval xs[j].data.toList := by
  unfold upto pv; rw [if_pos (by omega), List.getElem?_eq_getElem h]; rfl
theorem upto_other (xs : List ByteArray) {j k : Nat} (h : k ≠ j) : upto xs (j + 1) k = upto xs j k := by
  unfold upto
  by_cases hk : k < j
  · rw [if_pos hk, if_pos (by omega)]
  · rw [if_neg hk, if_neg (by omega)]
theorem nums_zero (xs : List ByteArray) : Nums xs 0 := fun _ _ h => by omega
theorem nums_next {xs : List ByteArray} {j : Nat} (h : Nums xs j) (hj : j < xs.length) (hn : (pnum xs[j].data.toList).isSome = true) : Nums xs (j + 1) := fun k hk h1 => by
  by_cases e : k = j
  · subst e; exact hn
  · exact h k hk (by omega)

theorem pieces_len {l : List UInt8} {xs : List ByteArray} (h : Pieces l xs) : 1 ≤ xs.length ∧ xs.length ≤ 3 := by
  rcases h with ⟨x, rfl, _⟩ | ⟨x, y, rfl, _⟩ | ⟨x, y, z, rfl, _⟩ <;> exact ⟨by simp, by simp⟩
theorem pieces_size {l : List UInt8} {xs : List ByteArray} (h : Pieces l xs) (k : Nat) (hk : k < xs.length) : xs[k].size ≤ l.length := by
  rcases h with ⟨x, rfl, rfl, _⟩ | ⟨x, y, rfl, ⟨rfl, _⟩⟩ | ⟨x, y, z, rfl, ⟨rfl, _⟩⟩
  · have : k = 0 := by simpa using hk
    subst this; simp
  · have : k = 0 ∨ k = 1 := by simp at hk; omega
    rcases this with rfl | rfl <;> simp <;> omega
  · have : k = 0 ∨ k = 1 ∨ k = 2 := by simp at hk; omega
    rcases this with rfl | rfl | rfl <;> simp <;> omega
theorem pieces_stop {l : List UInt8} {xs : List ByteArray} (h : Pieces l xs) {k : Nat} (hk : k < xs.length) (hn : pnum xs[k].data.toList = none) : pa l = none := by
  rcases h with ⟨x, rfl, rfl, h0⟩ | ⟨x, y, rfl, hs⟩ | ⟨x, y, z, rfl, hs⟩
  · exact sp0_none h0
  · have : k = 0 ∨ k = 1 := by simp at hk; omega
    rcases this with rfl | rfl
    · exact sp1_none_x hs hn
    · exact sp1_none_y hs hn
  · have : k = 0 ∨ k = 1 ∨ k = 2 := by simp at hk; omega
    rcases this with rfl | rfl | rfl
    · exact sp2_none_x hs hn
    · exact sp2_none_y hs hn
    · exact sp2_none_z hs hn
theorem pval_some {l : List UInt8} (h : (pnum l).isSome = true) : ∃ m : Nat, pnum l = some m ∧ pval l = m := by
  cases hp : pnum l with
  | none => rw [hp] at h; cases h
  | some m => exact ⟨m, rfl, by unfold pval; rw [hp]⟩
/-- All pieces are numbers, and the text of their address is another. -/
theorem pieces_no {l : List UInt8} {xs : List ByteArray} (h : Pieces l xs) (hn : Nums xs xs.length) (ht : atext (pv xs 0) (pv xs 1) (pv xs 2) ≠ l) : pa l = none := by
  rcases h with ⟨x, rfl, rfl, h0⟩ | ⟨x, y, rfl, hs⟩ | ⟨x, y, z, rfl, hs⟩
  · exact sp0_none h0
  · obtain ⟨m, hm, em⟩ := pval_some (hn 0 (by simp) (by simp))
    obtain ⟨n, hn', en⟩ := pval_some (hn 1 (by simp) (by simp))
    refine sp1_none hs hm hn' ?_
    have e0 : pv [x, y] 0 = m := em
    have e1 : pv [x, y] 1 = n := en
    have e2 : pv [x, y] 2 = 0 := rfl
    rw [e0, e1, e2] at ht; exact ht
  · obtain ⟨m, hm, em⟩ := pval_some (hn 0 (by simp) (by simp))
    obtain ⟨n, hn', en⟩ := pval_some (hn 1 (by simp) (by simp))
    obtain ⟨r, hr, er⟩ := pval_some (hn 2 (by simp) (by simp))
    refine sp2_none hs hm hn' hr ?_
    have e0 : pv [x, y, z] 0 = m := em
    have e1 : pv [x, y, z] 1 = n := en
    have e2 : pv [x, y, z] 2 = r := er
    rw [e0, e1, e2] at ht; exact ht
theorem pieces_yes {l : List UInt8} {xs : List ByteArray} (h : Pieces l xs) (hn : Nums xs xs.length) (ht : atext (pv xs 0) (pv xs 1) (pv xs 2) = l) : okA (pv xs 0) (pv xs 1) (pv xs 2) = true := by
  refine of_text ?_ ht
  rcases h with ⟨x, rfl, rfl, h0⟩ | ⟨x, y, rfl, hs⟩ | ⟨x, y, z, rfl, hs⟩
  · obtain ⟨m, hm, _⟩ := pval_some (hn 0 (by simp) (by simp))
    exact pnum_ne hm
  · exact sp1_ne hs
  · exact sp2_ne hs

theorem pi_yes (y : ByteArray) (w : World) (m : Nat) (hs : y.size ≤ 281474976710656) (ht : Tab w) (he : Errs w) (h : pnum y.data.toList = some m) :
    Calls Tryd.prog 23 #[.string y] w fun e w' => e = .returned (.tuple #[.int .i64 m, .bool true]) ∧ Below w.heap.size w w' := by
  have h1 : pval y.data.toList = m := by unfold pval; rw [h]
  have h2 : pyes y.data.toList = true := by unfold pyes; rw [h]; rfl
  have := parse_says y w hs ht he
  rw [h1, h2] at this
  exact this
theorem pi_no (y : ByteArray) (w : World) (hs : y.size ≤ 281474976710656) (ht : Tab w) (he : Errs w) (h : pnum y.data.toList = none) :
    Calls Tryd.prog 23 #[.string y] w fun e w' => e = .returned (.tuple #[.int .i64 0, .bool false]) ∧ Below w.heap.size w w' := by
  have h1 : pval y.data.toList = 0 := by unfold pval; rw [h]
  have h2 : pyes y.data.toList = false := by unfold pyes; rw [h]; rfl
  have := parse_says y w hs ht he
  rw [h1, h2] at this
  exact this

set_option maxRecDepth 100000 in
theorem addr_of (h p q : Int) (w : World) :
    Calls Tryd.prog 24 #[(Value.agg #[Value.int IntKind.i64 (h), Value.int IntKind.i64 (p), Value.int IntKind.i64 (q)])] w fun e w' => e = .returned (Value.agg #[Value.int IntKind.i64 (h), Value.int IntKind.i64 (p), Value.int IntKind.i64 (q)]) ∧ Below w.heap.size w w' := by
  go_enter Tryd.func24, Tryd.ntmps24
  go_wp2
  refine bodyPost_ret (v := (Value.agg #[Value.int IntKind.i64 (h), Value.int IntKind.i64 (p), Value.int IntKind.i64 (q)])) (by simp [results, Tryd.results24, go_sem]) rfl ⟨rfl, ?_⟩
  repeat' (first | exact Below.refl _ _ | assumption | refine Below.setCell ?_ ?_ _ | refine Below.alloc ?_ ?_ _ | refine Adr.below_drewN ?_ _ | refine Below.drew ?_ | exact Nat.le_refl _ | omega | refine Adr.le_alloc ?_ | refine Adr.le_set ?_ | refine Adr.le_drewN ?_ | refine Adr.le_drew ?_)

set_option maxHeartbeats 2000000 in
set_option maxRecDepth 100000 in
theorem parse_impl (s : ByteArray) (w : World) (hs : s.size ≤ 281474976710656) (ht0 : Tab w) (hE0 : Errs w) :
    Calls Tryd.prog 8 #[.string s] w fun e w' => e = .returned (.tuple #[(Value.agg #[Value.int IntKind.i64 (paH s.data.toList), Value.int IntKind.i64 (paP s.data.toList), Value.int IntKind.i64 (paQ s.data.toList)]), .bool (paY s.data.toList)]) ∧ Below w.heap.size w w' := by
  have tA := (Trio.new 25 (.int .i64 0) (.int .i64 0) (.int .i64 0) w).alloc (.cells #[.int .i64 0, .int .i64 0, .int .i64 0] 44)
  have tB := Trio.new 44 (.int .i64 0) (.int .i64 0) (.int .i64 0) (w.alloc (.cells #[.int .i64 0, .int .i64 0, .int .i64 0] 25))
  rw [size_alloc] at tB
  have bB : Below w.heap.size w ((w.alloc (.cells #[.int .i64 0, .int .i64 0, .int .i64 0] 25)).alloc (.cells #[.int .i64 0, .int .i64 0, .int .i64 0] 44)) := by repeat' (first | exact Below.refl _ _ | assumption | refine Below.setCell ?_ ?_ _ | refine Below.alloc ?_ ?_ _ | refine Adr.below_drewN ?_ _ | refine Below.drew ?_ | exact Nat.le_refl _ | omega | refine Adr.le_alloc ?_ | refine Adr.le_set ?_ | refine Adr.le_drewN ?_ | refine Adr.le_drew ?_)
  go_enter Tryd.func8, Tryd.ntmps8
  go_wp2_with fail
  go_at_call 22
  refine (split_any s _ hs).mono ?_
  rintro e w1 ⟨⟨xs, b, c, rfl, hb, hc, hm, hx, hP⟩, hb1⟩
  have tA1 := tA.below hb1
  have tB1 := tB.below hb1
  have bB1 : Below w.heap.size w w1 := bB.trans (hb1.mono bB.size)
  obtain ⟨hl1, hl3⟩ := pieces_len hP
  have HP := Lib.hid hP
  have hbne : b ≠ w.heap.size + 1 := by have : (w.heap.size + 1 + 1) ≤ b := by simpa using hb
                                        omega
  clear hP tA tB hb1 bB hb
  go_wp2
  go_loopw [14] (fun i wr => ∃ j : Nat, j ≤ xs.length ∧ i = .int .i64 j ∧ Hid (Nums xs j) ∧ Trio 25 w.heap.size (.int .i64 0) (.int .i64 0) (.int .i64 0) wr ∧ Trio 44 (w.heap.size + 1) (.int .i64 (upto xs j 0)) (.int .i64 (upto xs j 1)) (.int .i64 (upto xs j 2)) wr ∧ Hid (∀ k (h : k < xs.length), wr.cell? ⟨b, k, none⟩ = some (.string xs[k])) ∧ Below w.heap.size w wr) (fun i _ => xs.length - (intOf i).toNat)
  case atStart => exact ⟨0, Nat.zero_le _, rfl, Lib.hid (nums_zero xs), tA1, by rw [upto_zero, upto_zero, upto_zero]; exact tB1, Lib.hid hx, bB1⟩
  case round =>
    obtain ⟨j, hj, rfl, hN, tA, tB, hX, bB⟩ := hrel
    clear tA1 tB1 bB1 hx
    have ht := ht0.on bB
    have hE := hE0.on bB
    by_cases hlt : j < xs.length
    · have hcell := hX.out j hlt
      have hsz : xs[j].size ≤ 281474976710656 := by have := pieces_size HP.out j hlt; rw [size_list] at this; omega
      cases hp : pnum xs[j].data.toList with
      | none =>
        have hno := pa_no (pieces_stop HP.out hlt hp)
        have hc := pi_no xs[j] wr hsz ht hE hp
        clear hp
        generalize xs[j] = y at *
        go_wp2_with (go_at_call 23; refine hc.mono ?_; rintro e w2 ⟨rfl, hb2⟩; have tA2 := tA.below hb2; obtain ⟨c0, c1, c2⟩ := tA2.cells; obtain ⟨f0, f1, f2⟩ := tA2.frozen)
        rw [hno.1, hno.2.1, hno.2.2.1, hno.2.2.2]
        have g0 := (tA2.set0 (.int .i64 0)).cells.1
        have g1 := ((tA2.set0 (.int .i64 0)).set1 (.int .i64 0)).cells.2.1
        have g2 := (((tA2.set0 (.int .i64 0)).set1 (.int .i64 0)).set2 (.int .i64 0)).cells.2.2
        refine bodyPost_ret (v := .tuple #[(Value.agg #[Value.int IntKind.i64 (0), Value.int IntKind.i64 (0), Value.int IntKind.i64 (0)]), .bool false]) (by simp [results, Tryd.results8, go_sem, g0, g1, g2]) rfl ⟨rfl, ?_⟩
        have hB2 := bB.trans (hb2.mono bB.size)
        repeat' (first | exact Below.refl _ _ | assumption | refine Below.setCell ?_ ?_ _ | refine Below.alloc ?_ ?_ _ | refine Adr.below_drewN ?_ _ | refine Below.drew ?_ | exact Nat.le_refl _ | omega | refine Adr.le_alloc ?_ | refine Adr.le_set ?_ | refine Adr.le_drewN ?_ | refine Adr.le_drew ?_)
      | some m =>
        have HP1 := Lib.hid (nums_next hN.out hlt (by rw [hp]; rfl))
        have HU := Lib.hid (show upto xs (j + 1) j = m by rw [upto_here hlt]; unfold pval; rw [hp])
        have hc := pi_yes xs[j] wr m hsz ht hE hp
        have hj3 : j < 3 := by omega
        clear hp
        generalize xs[j] = y at *
        go_wp2_with (go_at_call 23; refine hc.mono ?_; rintro e w2 ⟨rfl, hb2⟩; have tB2 := tB.below hb2; have cj := tB2.cellAt (f := fun k => .int .i64 (upto xs j k)) hj3; have fj := tB2.frozenAt j)
        have hb : Below w.heap.size w (w2.setCell ⟨w.heap.size + 1, j, none⟩ (.int .i64 m)) := (bB.trans (hb2.mono bB.size)).setCell (by simp) _
        refine ⟨⟨j + 1, hlt, by go_num, HP1, (tA.below hb2).other _ (by simp), ?_, ?_, hb⟩, by simp [intOf]; omega⟩
        · have := tB2.setAt (f := fun k => .int .i64 (upto xs j k)) (g := fun k => .int .i64 (upto xs (j + 1) k)) hj3 (fun k hk => by rw [upto_other xs hk])
          rw [HU.out] at this
          exact this
        · refine Lib.hid fun k hk => ?_
          rw [cell_of_heap (heap_setCell_other _ _ _ _ hbne)]
          exact cell_below (hX.out k hk) hb2
    · obtain rfl : j = xs.length := by omega
      rw [upto_all, upto_all, upto_all] at tB
      obtain ⟨c0, c1, c2⟩ := tB.cells
      obtain ⟨l0, u0⟩ := pv_range xs 0
      obtain ⟨l1, u1⟩ := pv_range xs 1
      obtain ⟨l2, u2⟩ := pv_range xs 2
      have ht := ht0.on bB
      have hE := hE0.on bB
      by_cases heq : atext (pv xs 0) (pv xs 1) (pv xs 2) = s.data.toList
      · obtain ⟨r0, r1, r2, r3⟩ := pa_yes (pieces_yes HP.out hN.out heq) heq
        have hcmp : ((atext (pv xs 0) (pv xs 1) (pv xs 2)) != s.toList) = false := by rw [Lib.toList_data, heq]; simp
        go_wp2_with (first | (go_at_call 24; refine (addr_of _ _ _ _).mono ?_; rintro e w2 ⟨rfl, hb2⟩; have hB2 := bB.trans (hb2.mono bB.size); have tA2 := tA.below hb2; have ht2 := ht.on hb2) | (go_at_call 9; refine (text_impl _ _ _ _ (by omega) (by omega) (by omega) (by omega) (by omega) (by omega) (ht2.on ((Below.refl _ _).alloc (Nat.le_refl _) _))).mono ?_; rintro e w3 ⟨rfl, hb3⟩; have tA3 := (tA2.alloc _).below hb3; have hB3 := (hB2.alloc hB2.size _).trans (hb3.mono (hB2.alloc hB2.size _).size); obtain ⟨a0, a1, a2⟩ := tA3.cells; obtain ⟨f0, f1, f2⟩ := tA3.frozen; obtain ⟨n0, n1, n2⟩ := ((Trio.new _ _ _ _ w2).below hb3).cells))
        rw [r0, r1, r2, r3]
        have g0 := (tA3.set0 (.int .i64 (pv xs 0))).cells.1
        have g1 := ((tA3.set0 (.int .i64 (pv xs 0))).set1 (.int .i64 (pv xs 1))).cells.2.1
        have g2 := (((tA3.set0 (.int .i64 (pv xs 0))).set1 (.int .i64 (pv xs 1))).set2 (.int .i64 (pv xs 2))).cells.2.2
        refine bodyPost_ret (v := .tuple #[(Value.agg #[Value.int IntKind.i64 (pv xs 0), Value.int IntKind.i64 (pv xs 1), Value.int IntKind.i64 (pv xs 2)]), .bool true]) (by simp [results, Tryd.results8, go_sem, g0, g1, g2]) rfl ⟨rfl, ?_⟩
        repeat' (first | exact Below.refl _ _ | assumption | refine Below.setCell ?_ ?_ _ | refine Below.alloc ?_ ?_ _ | refine Adr.below_drewN ?_ _ | refine Below.drew ?_ | exact Nat.le_refl _ | omega | refine Adr.le_alloc ?_ | refine Adr.le_set ?_ | refine Adr.le_drewN ?_ | refine Adr.le_drew ?_)
      · obtain ⟨r0, r1, r2, r3⟩ := pa_no (pieces_no HP.out hN.out heq)
        have hcmp : ((atext (pv xs 0) (pv xs 1) (pv xs 2)) == s.toList) = false := by rw [Lib.toList_data]; simpa using heq
        go_wp2_with (first | (go_at_call 24; refine (addr_of _ _ _ _).mono ?_; rintro e w2 ⟨rfl, hb2⟩; have hB2 := bB.trans (hb2.mono bB.size); have tA2 := tA.below hb2; have ht2 := ht.on hb2) | (go_at_call 9; refine (text_impl _ _ _ _ (by omega) (by omega) (by omega) (by omega) (by omega) (by omega) (ht2.on ((Below.refl _ _).alloc (Nat.le_refl _) _))).mono ?_; rintro e w3 ⟨rfl, hb3⟩; have tA3 := (tA2.alloc _).below hb3; have hB3 := (hB2.alloc hB2.size _).trans (hb3.mono (hB2.alloc hB2.size _).size); obtain ⟨a0, a1, a2⟩ := tA3.cells; obtain ⟨f0, f1, f2⟩ := tA3.frozen; obtain ⟨n0, n1, n2⟩ := ((Trio.new _ _ _ _ w2).below hb3).cells))
        rw [r0, r1, r2, r3]
        have g0 := (tA3.set0 (.int .i64 (0))).cells.1
        have g1 := ((tA3.set0 (.int .i64 (0))).set1 (.int .i64 (0))).cells.2.1
        have g2 := (((tA3.set0 (.int .i64 (0))).set1 (.int .i64 (0))).set2 (.int .i64 (0))).cells.2.2
        refine bodyPost_ret (v := .tuple #[(Value.agg #[Value.int IntKind.i64 (0), Value.int IntKind.i64 (0), Value.int IntKind.i64 (0)]), .bool false]) (by simp [results, Tryd.results8, go_sem, g0, g1, g2]) rfl ⟨rfl, ?_⟩
        repeat' (first | exact Below.refl _ _ | assumption | refine Below.setCell ?_ ?_ _ | refine Below.alloc ?_ ?_ _ | refine Adr.below_drewN ?_ _ | refine Below.drew ?_ | exact Nat.le_refl _ | omega | refine Adr.le_alloc ?_ | refine Adr.le_set ?_ | refine Adr.le_drewN ?_ | refine Adr.le_drew ?_)
end Go.Proofs.YtoiaigmfoglcbaaDoor.Adr
