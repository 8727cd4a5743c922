/-
  Whether two slices of parts hold the same: the model and the program.
  Conditions: the parts lie in memory; in all at most 2^20 numbers each.
-/
import Derived.Test.YtedjclnojocjkaaGreatDoorPtsEq
import Derived.Test.YtedjclnojocjkaaGreatDoorResInts
import Derived.Deep.RegionHeld3
import Derived.Deep.CutBlock
namespace Go.Proofs.YtedjclnojocjkaaGreatDoor.Parts
open Go Go.RowKit Go.Proofs.YtedjclnojocjkaaGreatDoor.Mem Go.Proofs.YtedjclnojocjkaaGreatDoor.Adr Go.Proofs.YtedjclnojocjkaaGreatDoor.Res

def alikeB (P Q : Prt) : Bool := decide (P.k = Q.k ∧ (P.h = Q.h ∧ P.p = Q.p ∧ P.q = Q.q) ∧ P.zs = Q.zs)
def sameP (P Q : Prt) : Bool := decide (P.d = Q.d) && (decide (P.u = Q.u) && alikeB P Q)
def sameL : List Prt → List Prt → Bool
  | [], [] => true
  | P :: l, Q :: m => sameP P Q && sameL l m
  | _, _ => false
theorem sameP_iff (P Q : Prt) : sameP P Q = true ↔ P = Q := by
  obtain ⟨d, k, zs, h, p, q, u⟩ := P
  obtain ⟨d', k', zs', h', p', q', u'⟩ := Q
  simp only [sameP, alikeB, Bool.and_eq_true, decide_eq_true_eq, Prt.mk.injEq]
  constructor
  · rintro ⟨h1, h2, h3, ⟨h4, h5, h6⟩, h7⟩; exact ⟨h1, h3, h7, h4, h5, h6, h2⟩
  · rintro ⟨h1, h3, h7, h4, h5, h6, h2⟩; exact ⟨h1, h2, h3, ⟨h4, h5, h6⟩, h7⟩
theorem sameL_iff : ∀ (l m : List Prt), sameL l m = true ↔ l = m
  | [], [] => by simp [sameL]
  | [], _ :: _ => by simp [sameL]
  | _ :: _, [] => by simp [sameL]
  | P :: l, Q :: m => by simp only [sameL, Bool.and_eq_true, sameP_iff, sameL_iff l m, List.cons.injEq]
theorem sameL_len {l m : List Prt} (h : l.length ≠ m.length) : sameL l m = false := by
  cases hs : sameL l m with
  | false => rfl
  | true => exact absurd (by rw [(sameL_iff l m).1 hs]) h
theorem sameL_all {l m : List Prt} (hl : l.length = m.length) (h : ∀ i, i < l.length → sameP (pt l i) (pt m i) = true) : sameL l m = true := by
  rw [sameL_iff]
  apply List.ext_getElem hl
  intro i h1 h2
  have := (sameP_iff _ _).1 (h i h1)
  simpa [pt, List.getD_eq_getElem?_getD, h1, h2] using this
theorem sameL_no {l m : List Prt} {i : Nat} (h : sameP (pt l i) (pt m i) = false) : sameL l m = false := by
  cases hs : sameL l m with
  | false => rfl
  | true =>
    rw [(sameL_iff l m).1 hs, (sameP_iff _ _).2 rfl] at h
    cases h
def Agree (l m : List Prt) (j : Nat) : Prop := ∀ i, i < j → sameP (pt l i) (pt m i) = true
theorem Agree.zero (l m : List Prt) : Agree l m 0 := fun i h => absurd h (by omega)
theorem Agree.next {l m : List Prt} {j : Nat} (h : Agree l m j) (hj : sameP (pt l j) (pt m j) = true) : Agree l m (j + 1) := fun i hi => by
  by_cases he : i = j
  · subst he; exact hj
  · exact h i (by omega)

theorem PRow.max_at {lo hi n : Nat} {w : World} {a : Option Addr} {l : List Prt} (h : PRow lo hi w a n l) (hm : room l ≤ 1048576) : n ≤ 1048576 ∧ ∀ i, i < n → (pt l i).zs.length ≤ 1048576 := by
  have h1 := room_eq l
  have h2 := h.len
  refine ⟨by omega, fun i hi => ?_⟩
  have h3 := bodies_take l i (by omega)
  have h4 := bodies_le l (i + 1)
  omega

set_option maxHeartbeats 2000000 in
set_option maxRecDepth 100000 in
theorem same_part (l1 h1 l2 h2 : Nat) (P Q : Prt) (w : World) (a b : Option Addr) (c e : Nat) (ha : Row .i64 l1 h1 w a P.zs.length P.zs) (hb : Row .i64 l2 h2 w b Q.zs.length Q.zs) (hn : P.zs.length ≤ 1048576) (hm : Q.zs.length ≤ 1048576) (wP : P.Wf) (wQ : Q.Wf) :
    Calls Tryz.prog 39 #[(Value.agg #[Value.int IntKind.i64 (P.d), Value.int IntKind.i64 (P.k), Value.slice (a) (P.zs.length) (c), Value.int IntKind.i64 (P.h), Value.int IntKind.i64 (P.p), Value.int IntKind.i64 (P.q), Value.int IntKind.i64 (P.u)]), (Value.agg #[Value.int IntKind.i64 (Q.d), Value.int IntKind.i64 (Q.k), Value.slice (b) (Q.zs.length) (e), Value.int IntKind.i64 (Q.h), Value.int IntKind.i64 (Q.p), Value.int IntKind.i64 (Q.q), Value.int IntKind.i64 (Q.u)])] w fun x w' => x = .returned (.bool (sameP P Q)) ∧ Below w.heap.size w w' := by
  obtain ⟨wd, wk, wh, wp, wq, wu⟩ := wP
  obtain ⟨wd', wk', wh', wp', wq', wu'⟩ := wQ
  obtain ⟨O1, hO1⟩ : ∃ O, O = Obj.cells #[Value.int .i64 P.d, .int .i64 P.k, .slice a P.zs.length c, .int .i64 P.h, .int .i64 P.p, .int .i64 P.q, .int .i64 P.u] 62 (0, 0) := ⟨_, rfl⟩
  obtain ⟨O2, hO2⟩ : ∃ O, O = Obj.cells #[Value.int .i64 Q.d, .int .i64 Q.k, .slice b Q.zs.length e, .int .i64 Q.h, .int .i64 Q.p, .int .i64 Q.q, .int .i64 Q.u] 62 (0, 0) := ⟨_, rfl⟩
  have hB1 : Below w.heap.size w ((w.alloc O1).alloc O2) := by repeat' (first | exact Below.refl _ _ | assumption | refine Below.setCell ?_ ?_ _ | refine Below.alloc ?_ ?_ _ | refine Adr.below_drewN ?_ _ | refine Below.drew ?_ | exact Nat.le_refl _ | omega | (dsimp only; omega) | refine Adr.le_alloc ?_ | refine Adr.le_set ?_ | refine Adr.le_drewN ?_ | refine Adr.le_drew ?_)
  have qA : Sept 62 w.heap.size (.int .i64 P.d) (.int .i64 P.k) (.slice a P.zs.length c) (.int .i64 P.h) (.int .i64 P.p) (.int .i64 P.q) (.int .i64 P.u) ((w.alloc O1).alloc O2) := by rw [hO1]; exact (Sept.new _ _ _ _ _ _ _ _ w).alloc _
  have qB : Sept 62 (w.heap.size + 1) (.int .i64 Q.d) (.int .i64 Q.k) (.slice b Q.zs.length e) (.int .i64 Q.h) (.int .i64 Q.p) (.int .i64 Q.q) (.int .i64 Q.u) ((w.alloc O1).alloc O2) := by have := Sept.new 62 (.int .i64 Q.d) (.int .i64 Q.k) (.slice b Q.zs.length e) (.int .i64 Q.h) (.int .i64 Q.p) (.int .i64 Q.q) (.int .i64 Q.u) (w.alloc O1); rw [size_alloc] at this; rw [hO2]; exact this
  have hE := alike_impl l1 h1 l2 h2 P.k P.h P.p P.q Q.k Q.h Q.p Q.q ((w.alloc O1).alloc O2) a b P.zs.length c Q.zs.length e P.zs Q.zs (ha.below hB1) (hb.below hB1) hn hm wk wh wp wq wk' wh' wp' wq'
  rw [show decide (P.k = Q.k ∧ (P.h = Q.h ∧ P.p = Q.p ∧ P.q = Q.q) ∧ P.zs = Q.zs) = alikeB P Q from rfl] at hE
  subst hO1 hO2
  obtain ⟨a0, a1, a2, a3, a4, a5, a6⟩ := qA.cells
  obtain ⟨b0, b1, b2, b3, b4, b5, b6⟩ := qB.cells
  obtain ⟨R, hR⟩ : ∃ R, sameP P Q = R := ⟨_, rfl⟩
  rw [hR]
  by_cases he : P.d = Q.d
  rotate_left
  · obtain rfl : R = false := by rw [← hR]; simp [sameP, he]
    have f3 : (P.d == Q.d) = false := by simp [he]
    clear he hR hE
    go_enter Tryz.func39, Tryz.ntmps39
    go_wp2
    go_ret
    exact ⟨rfl, hB1⟩
  have f4 : (P.d == Q.d) = true := by simp [he]
  by_cases hu : P.u = Q.u
  rotate_left
  · obtain rfl : R = false := by rw [← hR]; simp [sameP, he, hu]
    have f3 : (P.u == Q.u) = false := by simp [hu]
    clear he hu hR hE
    go_enter Tryz.func39, Tryz.ntmps39
    go_wp2
    go_ret
    exact ⟨rfl, hB1⟩
  have f5 : (P.u == Q.u) = true := by simp [hu]
  rw [show alikeB P Q = R by rw [← hR]; simp [sameP, he, hu]] at hE
  clear he hu hR
  go_enter Tryz.func39, Tryz.ntmps39
  go_wp2_with fail
  go_at_call 15
  refine hE.mono ?_
  rintro x w1 ⟨rfl, hb1⟩
  go_wp2
  go_ret
  exact ⟨rfl, hB1.trans (hb1.mono hB1.size)⟩

set_option maxHeartbeats 2000000 in
set_option maxRecDepth 100000 in
theorem equal_parts (l1 h1 l2 h2 : Nat) (w : World) (a b : Option Addr) (n m c d : Nat) (l k : List Prt) (ha : PRow l1 h1 w a n l) (hb : PRow l2 h2 w b m k) (k1 : h1 ≤ w.heap.size) (k2 : h2 ≤ w.heap.size) (hm : room l ≤ 1048576) (hm2 : room k ≤ 1048576) :
    Calls Tryz.prog 38 #[.slice a n c, .slice b m d, .func (.func 39) #[] #[]] w fun x w' => x = .returned (.bool (sameL l k)) ∧ Below w.heap.size w w' := by
  obtain ⟨hn, hz⟩ := ha.max_at hm
  obtain ⟨hn2, hz2⟩ := hb.max_at hm2
  have el := ha.len
  have ek := hb.len
  by_cases hnm : n = m
  rotate_left
  · rw [sameL_len (by omega)]
    have hd : ((n : Int) != (m : Int)) = true := by simp; omega
    go_enter Tryz.func38, Tryz.ntmps38
    go_wp2
    go_ret
    exact ⟨rfl, Below.refl _ _⟩
  subst hnm
  obtain ⟨R, hR⟩ : ∃ R, sameL l k = R := ⟨_, rfl⟩
  rw [hR]
  have HR := Lib.hid hR
  have HL := Lib.hid el
  have HK := Lib.hid ek
  clear hR el ek hm hm2
  go_enter Tryz.func38, Tryz.ntmps38
  go_wp2
  go_loopw [17] (fun i wr => ∃ j : Nat, j ≤ n ∧ i = .int .i64 j ∧ Hid (Agree l k j) ∧ Below w.heap.size w wr) (fun i _ => n - (intOf i).toNat)
  case atStart => exact ⟨0, Nat.zero_le _, rfl, Agree.zero _ _, Below.refl _ _⟩
  case round =>
    obtain ⟨j, hj, rfl, HA, hbl⟩ := hrel
    by_cases hlt : j < n
    · obtain ⟨b1, o1, A1, c1, rfl, _, _, q1, r1, wf1⟩ := (ha.under hbl k1).at hlt
      obtain ⟨b2, o2, A2, c2, rfl, _, _, q2, r2, wf2⟩ := (hb.under hbl k2).at hlt
      have z1 := hz j hlt
      have z2 := hz2 j hlt
      have HN := Lib.hid (fun h : sameP (pt l j) (pt k j) = false => sameL_no h)
      have HY := Lib.hid (fun h : sameP (pt l j) (pt k j) = true => HA.out.next h)
      obtain ⟨P, hP⟩ : ∃ P, pt l j = P := ⟨_, rfl⟩
      obtain ⟨Q, hQ⟩ : ∃ Q, pt k j = Q := ⟨_, rfl⟩
      rw [hP] at q1 r1 z1 wf1
      rw [hQ] at q2 r2 z2 wf2
      rw [hP, hQ] at HN HY
      clear hP hQ ha hb
      obtain ⟨O1, hO1⟩ : ∃ O, O = Obj.cells #[Value.int .i64 P.d, .int .i64 P.k, .slice A1 P.zs.length c1, .int .i64 P.h, .int .i64 P.p, .int .i64 P.q, .int .i64 P.u] 62 (0, 0) := ⟨_, rfl⟩
      obtain ⟨O2, hO2⟩ : ∃ O, O = Obj.cells #[Value.int .i64 Q.d, .int .i64 Q.k, .slice A2 Q.zs.length c2, .int .i64 Q.h, .int .i64 Q.p, .int .i64 Q.q, .int .i64 Q.u] 62 (0, 0) := ⟨_, rfl⟩
      have hBA : Below wr.heap.size wr ((wr.alloc O1).alloc O2) := by repeat' (first | exact Below.refl _ _ | assumption | refine Below.setCell ?_ ?_ _ | refine Below.alloc ?_ ?_ _ | refine Adr.below_drewN ?_ _ | refine Below.drew ?_ | exact Nat.le_refl _ | omega | (dsimp only; omega) | refine Adr.le_alloc ?_ | refine Adr.le_set ?_ | refine Adr.le_drewN ?_ | refine Adr.le_drew ?_)
      have hB1 := hbl.trans (hBA.mono hbl.size)
      have qA : Sept 62 wr.heap.size (.int .i64 P.d) (.int .i64 P.k) (.slice A1 P.zs.length c1) (.int .i64 P.h) (.int .i64 P.p) (.int .i64 P.q) (.int .i64 P.u) ((wr.alloc O1).alloc O2) := by rw [hO1]; exact (Sept.new _ _ _ _ _ _ _ _ wr).alloc _
      have qB : Sept 62 (wr.heap.size + 1) (.int .i64 Q.d) (.int .i64 Q.k) (.slice A2 Q.zs.length c2) (.int .i64 Q.h) (.int .i64 Q.p) (.int .i64 Q.q) (.int .i64 Q.u) ((wr.alloc O1).alloc O2) := by have := Sept.new 62 (.int .i64 Q.d) (.int .i64 Q.k) (.slice A2 Q.zs.length c2) (.int .i64 Q.h) (.int .i64 Q.p) (.int .i64 Q.q) (.int .i64 Q.u) (wr.alloc O1); rw [size_alloc] at this; rw [hO2]; exact this
      have q2a : Cells7 (wr.alloc O1) b2 (o2 + j * 7) Q A2 c2 := q2.below ((Below.refl _ _).alloc (Nat.le_refl _) _)
      have hT := same_part l1 h1 l2 h2 P Q ((wr.alloc O1).alloc O2) A1 A2 c1 c2 (r1.row.below hBA) (r2.row.below hBA) z1 z2 wf1 wf2
      have g2 := q2a.all
      subst hO1 hO2
      obtain ⟨x0, x1, x2, x3, x4, x5, x6⟩ := q1.all
      obtain ⟨y0, y1, y2, y3, y4, y5, y6⟩ := g2
      obtain ⟨a0, a1, a2, a3, a4, a5, a6⟩ := qA.cells
      obtain ⟨b0, b1', b2', b3, b4, b5, b6⟩ := qB.cells
      clear r1 r2 q1 q2 q2a wf1 wf2
      obtain ⟨B, hB⟩ : ∃ B, sameP P Q = B := ⟨_, rfl⟩
      rw [hB] at hT HN HY
      clear hB
      cases B
      · have hno := Lib.hid (HN.out rfl)
        clear HN HY
        go_wp2_with fail
        go_at_call 39
        refine hT.mono ?_
        rintro e w1 ⟨rfl, hb1⟩
        have hB2 := hB1.trans (hb1.mono hB1.size)
        go_wp2
        go_ret
        exact ⟨by rw [← HR.out, hno.out]; rfl, hB2⟩
      · have hyes := Lib.hid (HY.out rfl)
        clear HN HY
        go_wp2_with fail
        go_at_call 39
        refine hT.mono ?_
        rintro e w1 ⟨rfl, hb1⟩
        have hB2 := hB1.trans (hb1.mono hB1.size)
        go_wp2
        go_roundw
        case rel => exact ⟨j + 1, by omega, by go_num, hyes, hB2⟩
        case measure => simp [intOf]; omega
    · have hd : decide ((j : Int) < (n : Int)) = false := by simp; omega
      have HE := Lib.hid (show j = n by omega)
      go_wp2
      go_ret
      have h1 := HA.out
      rw [HE.out] at h1
      exact ⟨by rw [← HR.out, sameL_all (HL.out.trans HK.out.symm) (fun i hi => h1 i (by rw [← HL.out]; exact hi))]; rfl, hbl⟩

set_option maxRecDepth 100000 in
theorem stores_impl (l1 h1 l2 h2 : Nat) (w : World) (a b : Option Addr) (n m c d : Nat) (l k : List Prt) (ha : PRow l1 h1 w a n l) (hb : PRow l2 h2 w b m k) (k1 : h1 ≤ w.heap.size) (k2 : h2 ≤ w.heap.size) (hm : room l ≤ 1048576) (hm2 : room k ≤ 1048576) :
    Calls Tryz.prog 8 #[.slice a n c, .slice b m d] w fun x w' => x = .returned (.bool (sameL l k)) ∧ Below w.heap.size w w' := by
  have hE := equal_parts l1 h1 l2 h2 w a b n m c d l k ha hb k1 k2 hm hm2
  obtain ⟨R, hR⟩ : ∃ R, sameL l k = R := ⟨_, rfl⟩
  rw [hR] at hE ⊢
  clear hR
  go_enter Tryz.func8, Tryz.ntmps8
  go_wp2_with fail
  go_at_call 38
  refine hE.mono ?_
  rintro e w1 ⟨rfl, hb1⟩
  go_wp2
  go_ret
  exact ⟨rfl, hb1⟩
end Go.Proofs.YtedjclnojocjkaaGreatDoor.Parts
