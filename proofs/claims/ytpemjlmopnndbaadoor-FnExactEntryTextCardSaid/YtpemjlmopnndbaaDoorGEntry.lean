/-
  A struct (Entry): its cells in the words for data of any depth, and the exact laws' helpers at it.
  Conditions: what it leads to lies in memory.
-/
import Derived.Test.YtpemjlmopnndbaaDoorDatInts
import Derived.Test.YtpemjlmopnndbaaDoorBlk
import Derived.Test.YtpemjlmopnndbaaDoorGAddress
import Derived.WalkKit
import Derived.Handy
import Derived.Deep.RegionHeld3
import Derived.Deep.CutBlock
import Derived.Deep.DeepCutAuto
namespace Go.Proofs.YtpemjlmopnndbaaDoor.Gen
open Go Go.RowKit Go.Proofs.YtpemjlmopnndbaaDoor.Mem

structure TEntry where
  f0 : Int
  f1 : TAddress
  f2 : Int
def nEntry : TEntry := ⟨0, nAddress, 0⟩
def TEntry.c (P : TEntry) : Nat → Dat
  | 0 => .int P.f0
  | 1 => .int P.f1.f0
  | 2 => .int P.f1.f1
  | 3 => .int P.f1.f2
  | 4 => .int P.f2
  | _ => .int 0
def dEntry (l : List TEntry) : Dat := .row 5 l.length fun i => (l.getD i nEntry).c
/-- The cells of an element. -/
structure CEntry (w : World) (b o : Nat) (P : TEntry)  : Prop where
  c0 : w.cell? ⟨b, o, none⟩ = some (.int .i64 P.f0)
  c1 : w.cell? ⟨b, o + 1, none⟩ = some (.int .i64 P.f1.f0)
  c2 : w.cell? ⟨b, o + 2, none⟩ = some (.int .i64 P.f1.f1)
  c3 : w.cell? ⟨b, o + 3, none⟩ = some (.int .i64 P.f1.f2)
  c4 : w.cell? ⟨b, o + 4, none⟩ = some (.int .i64 P.f2)
section
variable {lo hi b o : Nat} {w w' : World} {P : TEntry} 
theorem CEntry.keep (h : CEntry w b o P ) (hb : w'.heap[b]? = w.heap[b]?) : CEntry w' b o P  :=
  ⟨by rw [Mem.cell_of_heap hb]; exact h.c0, by rw [Mem.cell_of_heap hb]; exact h.c1, by rw [Mem.cell_of_heap hb]; exact h.c2, by rw [Mem.cell_of_heap hb]; exact h.c3, by rw [Mem.cell_of_heap hb]; exact h.c4⟩
theorem CEntry.lt (h : CEntry w b o P ) : b < w.heap.size := Mem.cell_lt h.c0
theorem CEntry.below (h : CEntry w b o P ) (hb : Below w.heap.size w w') : CEntry w' b o P  := h.keep (hb.block _ h.lt)
theorem CEntry.all (h : CEntry w b o P ) : w.cell? ⟨b, o, none⟩ = some (.int .i64 P.f0) ∧ w.cell? ⟨b, o + 1, none⟩ = some (.int .i64 P.f1.f0) ∧ w.cell? ⟨b, o + 2, none⟩ = some (.int .i64 P.f1.f1) ∧ w.cell? ⟨b, o + 3, none⟩ = some (.int .i64 P.f1.f2) ∧ w.cell? ⟨b, o + 4, none⟩ = some (.int .i64 P.f2) := ⟨h.c0, h.c1, h.c2, h.c3, h.c4⟩
end
theorem at_Entry {lo hi : Nat} {w : World} {A : Option Addr} {n c : Nat} {l : List TEntry} (h : Lies lo hi w (dEntry l) (.slice A n c)) {j : Nat} (hj : j < n) :
    ∃ (b off : Nat) , A = some ⟨b, off, none⟩ ∧ lo ≤ b ∧ b < hi ∧ CEntry w b (off + j * 5) (l.getD j nEntry)  ∧ ((Lit.int .i64 (l.getD j nEntry).f0).wf = true ∧ (Lit.int .i64 (l.getD j nEntry).f1.f0).wf = true ∧ (Lit.int .i64 (l.getD j nEntry).f1.f1).wf = true ∧ (Lit.int .i64 (l.getD j nEntry).f1.f2).wf = true ∧ (Lit.int .i64 (l.getD j nEntry).f2).wf = true ∧ True) := by
  obtain ⟨A', c', e, h1, h2, h3⟩ := h
  injection e with e1 e2 e3
  subst e1 e2 e3
  obtain ⟨b, off, rfl, k1, k2, k3⟩ := h3 (by omega)
  have k4 : ∀ x, x < 5 → ∃ u, w.cell? ⟨b, off + j * 5 + x, none⟩ = some u ∧ Lies lo hi w ((l.getD j nEntry).c x) u := fun x hx => k3 j hj x hx
  clear k3 h3
  obtain ⟨P, hP⟩ : ∃ P, l.getD j nEntry = P := ⟨_, rfl⟩
  rw [hP] at k4 ⊢
  obtain ⟨u0, g0, q0⟩ := k4 0 (by omega)
  replace q0 : Lies lo hi w (.int P.f0) u0 := q0
  obtain ⟨rfl, w0⟩ := lies_int q0
  obtain ⟨u1, g1, q1⟩ := k4 1 (by omega)
  replace q1 : Lies lo hi w (.int P.f1.f0) u1 := q1
  obtain ⟨rfl, w1⟩ := lies_int q1
  obtain ⟨u2, g2, q2⟩ := k4 2 (by omega)
  replace q2 : Lies lo hi w (.int P.f1.f1) u2 := q2
  obtain ⟨rfl, w2⟩ := lies_int q2
  obtain ⟨u3, g3, q3⟩ := k4 3 (by omega)
  replace q3 : Lies lo hi w (.int P.f1.f2) u3 := q3
  obtain ⟨rfl, w3⟩ := lies_int q3
  obtain ⟨u4, g4, q4⟩ := k4 4 (by omega)
  replace q4 : Lies lo hi w (.int P.f2) u4 := q4
  obtain ⟨rfl, w4⟩ := lies_int q4
  exact ⟨b, off, rfl, k1, k2, ⟨g0, g1, g2, g3, g4⟩, ⟨w0, w1, w2, w3, w4, trivial⟩⟩
theorem lies_Entry {lo hi : Nat} {w : World} {l : List TEntry} {v : Value} (h : Lies lo hi w (dEntry l) v) : ∃ A c, v = .slice A l.length c := by
  obtain ⟨A, c, e, _⟩ := h; exact ⟨A, c, e⟩
theorem room_Entry (P : TEntry) : sumTo (fun x => room (P.c x)) 5 = 0 := by
  first | (simp [sumTo, TEntry.c, room]; done) | (simp [sumTo, TEntry.c, room]; omega)
theorem ct_Entry (P : TEntry) : sumTo (fun x => ct (P.c x)) 5 = 5 := by
  first | (simp [sumTo, TEntry.c, ct]; done) | (simp [sumTo, TEntry.c, ct]; omega)

set_option maxHeartbeats 1600000 in
set_option maxRecDepth 100000 in
theorem gto_Entry {w : World} (P : TEntry)  :
    Calls Tryd.prog 5 #[(Value.agg #[.int .i64 P.f0, .int .i64 P.f1.f0, .int .i64 P.f1.f1, .int .i64 P.f1.f2, .int .i64 P.f2])] w fun e w' => e = .returned (Value.agg #[.int .i64 P.f0, .int .i64 P.f1.f0, .int .i64 P.f1.f1, .int .i64 P.f1.f2, .int .i64 P.f2]) ∧ Below w.heap.size w w' := by
  obtain ⟨O1, hO1⟩ : ∃ O, O = Obj.cells #[Value.int .i64 P.f0, .int .i64 P.f1.f0, .int .i64 P.f1.f1, .int .i64 P.f1.f2, .int .i64 P.f2] 25 (0, 0) := ⟨_, rfl⟩
  obtain ⟨O2, hO2⟩ : ∃ O, O = Obj.cells #[Value.int .i64 0, .int .i64 0, .int .i64 0, .int .i64 0, .int .i64 0] 29 (0, 0) := ⟨_, rfl⟩
  obtain ⟨O3, hO3⟩ : ∃ O, O = Obj.cells #[Value.int .i64 P.f0, .int .i64 0, .int .i64 0, .int .i64 0, .int .i64 0] 29 (0, 0) := ⟨_, rfl⟩
  have hB : Below w.heap.size w (((w.alloc O1).alloc O2).alloc O3) := by repeat' (first | exact Below.refl _ _ | assumption | refine Below.setCell ?_ ?_ _ | refine Below.alloc ?_ ?_ _ | refine Gen.gbelow_drewN ?_ _ | refine Below.drew ?_ | exact Nat.le_refl _ | omega | (dsimp only; omega) | refine Gen.gle_alloc ?_ | refine Gen.gle_set ?_ | refine Gen.gle_drewN ?_ | refine Gen.gle_drew ?_)
  have qA : Blk 25 w.heap.size [Value.int .i64 P.f0, .int .i64 P.f1.f0, .int .i64 P.f1.f1, .int .i64 P.f1.f2, .int .i64 P.f2] (((w.alloc O1).alloc O2).alloc O3) := by rw [hO1]; exact ((Blk.new _ _ w).alloc _).alloc _
  have qR : Blk 29 (w.heap.size + 1) [Value.int .i64 0, .int .i64 0, .int .i64 0, .int .i64 0, .int .i64 0] (((w.alloc O1).alloc O2).alloc O3) := by have := (Blk.new 29 [Value.int .i64 0, .int .i64 0, .int .i64 0, .int .i64 0, .int .i64 0] (w.alloc O1)).alloc O3; rw [gsize_alloc] at this; rw [hO2]; exact this
  have qO : Blk 29 (w.heap.size + 1 + 1) [Value.int .i64 P.f0, .int .i64 0, .int .i64 0, .int .i64 0, .int .i64 0] (((w.alloc O1).alloc O2).alloc O3) := by have := Blk.new 29 [Value.int .i64 P.f0, .int .i64 0, .int .i64 0, .int .i64 0, .int .i64 0] ((w.alloc O1).alloc O2); rw [gsize_alloc, gsize_alloc] at this; rw [hO3]; exact this
  have hS : (((w.alloc O1).alloc O2).alloc O3).heap.size = w.heap.size + 3 := by simp only [gsize_alloc]
  subst hO1 hO2 hO3
  go_enter Tryd.func5, Tryd.ntmps5
  go_wp2_with fail
  go_at_call 11
  refine Calls.mono (gto_Address P.f1) ?_
  rintro e w1 ⟨rfl, hb⟩
  have qA := qA.below hb
  have qR := qR.below hb
  have qO := qO.below hb
  have hz1 := hb.size
  rw [hS] at hz1
  have hB := hB.trans (hb.mono hB.size)
  clear hb
  clear hS
  have fO := qO.free
  have fR := qR.free
  have ca0 : w1.cell? ⟨w.heap.size, 0, none⟩ = some (.int .i64 P.f0) := qA.at rfl
  have ca1 : w1.cell? ⟨w.heap.size, 1, none⟩ = some (.int .i64 P.f1.f0) := qA.at rfl
  have ca2 : w1.cell? ⟨w.heap.size, 2, none⟩ = some (.int .i64 P.f1.f1) := qA.at rfl
  have ca3 : w1.cell? ⟨w.heap.size, 3, none⟩ = some (.int .i64 P.f1.f2) := qA.at rfl
  have ca4 : w1.cell? ⟨w.heap.size, 4, none⟩ = some (.int .i64 P.f2) := qA.at rfl
  have co0 : w1.cell? ⟨w.heap.size + 1 + 1, 0, none⟩ = some (.int .i64 P.f0) := qO.at rfl
  have cr0 : w1.cell? ⟨w.heap.size + 1, 0, none⟩ = some (.int .i64 0) := qR.at rfl
  have fo0 : w1.frozen? ⟨w.heap.size + 1 + 1, 0, none⟩ = false := fO 0
  have fr0 : w1.frozen? ⟨w.heap.size + 1, 0, none⟩ = false := fR 0
  have co1 : w1.cell? ⟨w.heap.size + 1 + 1, 1, none⟩ = some (.int .i64 0) := qO.at rfl
  have cr1 : w1.cell? ⟨w.heap.size + 1, 1, none⟩ = some (.int .i64 0) := qR.at rfl
  have fo1 : w1.frozen? ⟨w.heap.size + 1 + 1, 1, none⟩ = false := fO 1
  have fr1 : w1.frozen? ⟨w.heap.size + 1, 1, none⟩ = false := fR 1
  have co2 : w1.cell? ⟨w.heap.size + 1 + 1, 2, none⟩ = some (.int .i64 0) := qO.at rfl
  have cr2 : w1.cell? ⟨w.heap.size + 1, 2, none⟩ = some (.int .i64 0) := qR.at rfl
  have fo2 : w1.frozen? ⟨w.heap.size + 1 + 1, 2, none⟩ = false := fO 2
  have fr2 : w1.frozen? ⟨w.heap.size + 1, 2, none⟩ = false := fR 2
  have co3 : w1.cell? ⟨w.heap.size + 1 + 1, 3, none⟩ = some (.int .i64 0) := qO.at rfl
  have cr3 : w1.cell? ⟨w.heap.size + 1, 3, none⟩ = some (.int .i64 0) := qR.at rfl
  have fo3 : w1.frozen? ⟨w.heap.size + 1 + 1, 3, none⟩ = false := fO 3
  have fr3 : w1.frozen? ⟨w.heap.size + 1, 3, none⟩ = false := fR 3
  have co4 : w1.cell? ⟨w.heap.size + 1 + 1, 4, none⟩ = some (.int .i64 0) := qO.at rfl
  have cr4 : w1.cell? ⟨w.heap.size + 1, 4, none⟩ = some (.int .i64 0) := qR.at rfl
  have fo4 : w1.frozen? ⟨w.heap.size + 1 + 1, 4, none⟩ = false := fO 4
  have fr4 : w1.frozen? ⟨w.heap.size + 1, 4, none⟩ = false := fR 4
  go_upto_region 5 with fail
  obtain ⟨V, hV⟩ : ∃ V, V = ((((w1.setCell ⟨w.heap.size + 1 + 1, 1, none⟩ (.int .i64 P.f1.f0)).setCell ⟨w.heap.size + 1 + 1, 2, none⟩ (.int .i64 P.f1.f1)).setCell ⟨w.heap.size + 1 + 1, 3, none⟩ (.int .i64 P.f1.f2)).setCell ⟨w.heap.size + 1 + 1, 4, none⟩ (.int .i64 P.f2)) := ⟨_, rfl⟩
  have hBV : Below w.heap.size w V := by rw [hV]; (iterate 4 (refine Below.setCell ?_ (by dsimp only; omega) _)); exact hB
  have hZV : Zone 0 (w.heap.size + 3) w1 V := by rw [hV]; (iterate 4 (refine Zone.setCell ?_ ⟨by omega, by omega⟩ _)); exact Zone.refl _ _ _
  have hVs : V.heap.size = w1.heap.size := by rw [hV]; simp only [gsize_set]
  have pO : Blk 29 (w.heap.size + 1 + 1) [Value.int .i64 P.f0, .int .i64 P.f1.f0, .int .i64 P.f1.f1, .int .i64 P.f1.f2, .int .i64 P.f2] V := by rw [hV]; exact ((((qO.set 1 (.int .i64 P.f1.f0)).set 2 (.int .i64 P.f1.f1)).set 3 (.int .i64 P.f1.f2)).set 4 (.int .i64 P.f2))
  have pR : Blk 29 (w.heap.size + 1) [Value.int .i64 0, .int .i64 0, .int .i64 0, .int .i64 0, .int .i64 0] V := by rw [hV]; exact ((((qR.other (a := ⟨w.heap.size + 1 + 1, 1, none⟩) (.int .i64 P.f1.f0) (by dsimp only; omega)).other (a := ⟨w.heap.size + 1 + 1, 2, none⟩) (.int .i64 P.f1.f1) (by dsimp only; omega)).other (a := ⟨w.heap.size + 1 + 1, 3, none⟩) (.int .i64 P.f1.f2) (by dsimp only; omega)).other (a := ⟨w.heap.size + 1 + 1, 4, none⟩) (.int .i64 P.f2) (by dsimp only; omega))
  rw [← hV]
  clear hV hZV qA qR qO fO fR ca0 co0 cr0 fo0 fr0 ca1 co1 cr1 fo1 fr1 ca2 co2 cr2 fo2 fr2 ca3 co3 cr3 fo3 fr3 ca4 co4 cr4 fo4 fr4 hB
  have co0 : V.cell? ⟨w.heap.size + 1 + 1, 0, none⟩ = some (.int .i64 P.f0) := pO.at rfl
  have cr0 : V.cell? ⟨w.heap.size + 1, 0, none⟩ = some (.int .i64 0) := pR.at rfl
  have fr0 : V.frozen? ⟨w.heap.size + 1, 0, none⟩ = false := pR.free 0
  have co1 : V.cell? ⟨w.heap.size + 1 + 1, 1, none⟩ = some (.int .i64 P.f1.f0) := pO.at rfl
  have cr1 : V.cell? ⟨w.heap.size + 1, 1, none⟩ = some (.int .i64 0) := pR.at rfl
  have fr1 : V.frozen? ⟨w.heap.size + 1, 1, none⟩ = false := pR.free 1
  have co2 : V.cell? ⟨w.heap.size + 1 + 1, 2, none⟩ = some (.int .i64 P.f1.f1) := pO.at rfl
  have cr2 : V.cell? ⟨w.heap.size + 1, 2, none⟩ = some (.int .i64 0) := pR.at rfl
  have fr2 : V.frozen? ⟨w.heap.size + 1, 2, none⟩ = false := pR.free 2
  have co3 : V.cell? ⟨w.heap.size + 1 + 1, 3, none⟩ = some (.int .i64 P.f1.f2) := pO.at rfl
  have cr3 : V.cell? ⟨w.heap.size + 1, 3, none⟩ = some (.int .i64 0) := pR.at rfl
  have fr3 : V.frozen? ⟨w.heap.size + 1, 3, none⟩ = false := pR.free 3
  have co4 : V.cell? ⟨w.heap.size + 1 + 1, 4, none⟩ = some (.int .i64 P.f2) := pO.at rfl
  have cr4 : V.cell? ⟨w.heap.size + 1, 4, none⟩ = some (.int .i64 0) := pR.at rfl
  have fr4 : V.frozen? ⟨w.heap.size + 1, 4, none⟩ = false := pR.free 4
  go_wp2
  have qF := (((((pR.set 0 (.int .i64 P.f0)).set 1 (.int .i64 P.f1.f0)).set 2 (.int .i64 P.f1.f1)).set 3 (.int .i64 P.f1.f2)).set 4 (.int .i64 P.f2))
  have g0 := qF.at (x := 0) rfl
  have g1 := qF.at (x := 1) rfl
  have g2 := qF.at (x := 2) rfl
  have g3 := qF.at (x := 3) rfl
  have g4 := qF.at (x := 4) rfl
  refine bodyPost_ret (v := (Value.agg #[.int .i64 P.f0, .int .i64 P.f1.f0, .int .i64 P.f1.f1, .int .i64 P.f1.f2, .int .i64 P.f2])) (by simp [results, Tryd.results5, go_sem, g0, g1, g2, g3, g4]) rfl ⟨rfl, ?_⟩
  iterate 5 (refine Below.setCell ?_ (by dsimp only; omega) _)
  exact hBV


theorem infoEntry : (Tryd.prog.info? 29).map (fun i => (i.zero, i.size, i.bytes)) = some (some (.agg #[.int .i64 0, .int .i64 0, .int .i64 0, .int .i64 0, .int .i64 0]), 5, 40) := by kernel_rfl
theorem putL_Entry (w : World) (b o : Nat) (a0 a1 a2 a3 a4 : Value) : putL w b o [a0, a1, a2, a3, a4] = ((((w.setCell ⟨b, o, none⟩ a0).setCell ⟨b, o + 1, none⟩ a1).setCell ⟨b, o + 2, none⟩ a2).setCell ⟨b, o + 3, none⟩ a3).setCell ⟨b, o + 4, none⟩ a4 := rfl
theorem ctb_EntryS (l : List TEntry) : ct (dEntry l) ≤ 64 * room (dEntry l) := by
  refine ct_le_room (by omega) fun i _ => ?_
  have h1 := ct_Entry (l.getD i nEntry)
  have h2 := room_Entry (l.getD i nEntry)
  show sumTo (fun x => ct ((l.getD i nEntry).c x)) 5 ≤ 5 + 64 * sumTo (fun x => room ((l.getD i nEntry).c x)) 5
  omega
theorem lies_mk_Entry {lo hi m : Nat} {w : World} {l : List TEntry} {v : Value} (h : Lies lo hi w (mk m (dEntry l)) v) : ∃ A c, v = .slice A l.length c := by
  obtain ⟨A, c, e, _⟩ := h; exact ⟨A, c, e⟩
end Go.Proofs.YtpemjlmopnndbaaDoor.Gen
