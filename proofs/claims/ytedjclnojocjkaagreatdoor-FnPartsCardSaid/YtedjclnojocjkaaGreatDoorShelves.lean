/-
  The program's map of parts: made of a slice, asked, written. The program's map of parts: what is found, what a take leaves, the list in order.
  Conditions: as each theorem states them.
-/
import Derived.Test.YtedjclnojocjkaaGreatDoorKeys
import Derived.Test.YtedjclnojocjkaaGreatDoorCopyI
import Derived.Test.YtedjclnojocjkaaGreatDoorStoreI
import Derived.Test.YtedjclnojocjkaaGreatDoorTakeS
import Derived.Carry
import Derived.Test.YtedjclnojocjkaaGreatDoorPtsCopy
namespace Go.Proofs.YtedjclnojocjkaaGreatDoor.Parts
open Go Go.RowKit Go.Proofs.YtedjclnojocjkaaGreatDoor.Mem Go.Proofs.YtedjclnojocjkaaGreatDoor.Adr Go.Proofs.YtedjclnojocjkaaGreatDoor.Res Go.Proofs.YtedjclnojocjkaaGreatDoor.Errs
open Go.Maps (int_keyed keyOf_int_mk IsMap)

def NoPart (a1 : Addr) (w : World) : Prop := w.cell? ⟨1, 0, none⟩ = some (sent a1)
theorem NoPart.below {a1 : Addr} {w w' : World} (h : NoPart a1 w) (hb : Below w.heap.size w w') : NoPart a1 w' := (Mem.cell_of_heap (hb.block _ (Mem.cell_lt h))).trans h
theorem NoPart.zone {a1 : Addr} {w w' : World} {lo hi : Nat} (h : NoPart a1 w) (hz : Zone lo hi w w') (hl : 1 < lo ∨ hi ≤ 1) : NoPart a1 w' := (Mem.cell_of_heap (hz.block _ (Mem.cell_lt h) hl)).trans h

/-- Block b holds a map that reads as the items m. -/
def Shelf (b nn : Nat) (w : World) (m : List Item) : Prop := ∃ D : DataW Value, w.ownsMap Tryz.prog 3 anyR b nn D ∧ Dict D m
theorem Shelf.keep {b nn : Nat} {w w' : World} {m : List Item} (h : Shelf b nn w m) (hb : w'.heap[b]? = w.heap[b]?) : Shelf b nn w' m := by
  obtain ⟨D, ⟨es, clock, h1, h2⟩, h3⟩ := h
  exact ⟨D, ⟨es, clock, hb.trans h1, h2⟩, h3⟩
theorem Shelf.lt {b nn : Nat} {w : World} {m : List Item} (h : Shelf b nn w m) : b < w.heap.size := by
  obtain ⟨D, h1, _⟩ := h
  exact h1.lt
theorem Shelf.below {b nn : Nat} {w w' : World} {m : List Item} (h : Shelf b nn w m) (hb : Below w.heap.size w w') : Shelf b nn w' m := h.keep (hb.block _ h.lt)
theorem zero_part (w : World) : (zeroValue 62).run Tryz.prog w = .ok (.agg #[.int .i64 0, .int .i64 0, .slice none 0 0, .int .i64 0, .int .i64 0, .int .i64 0, .int .i64 0]) w := by kernel_rfl
theorem keyed : Go.Maps.Keyed Tryz.prog 3 := int_keyed Tryz.underlying3
theorem key_of {k : Int} (h : (Lit.int .i64 k).wf = true) : keyOf Tryz.prog 3 (.int .i64 k) = some (key k) := keyOf_int_mk Tryz.underlying3 h
theorem anyR_mk (v : Value) : anyR v = some (.held v, []) := rfl
theorem anyR_inv {v u : Value} {ps : List MemPlace} (h : anyR v = some (.held u, ps)) : v = u := by
  unfold anyR at h
  injection h with h
  injection h with h _
  injection h

/-- What is found under a digest. -/
theorem Shelf.look {b nn : Nat} {w : World} {m : List Item} {x : Item} (h : Shelf b nn w m) {k : Int} (hk : (Lit.int .i64 k).wf = true) (hx : lk k m = some x) :
    (Instr.lookup 66 (.map (some b)) (.int .i64 k) false).run Tryz.prog w = .ok (pv x) w := by
  obtain ⟨D, h1, h2⟩ := h
  obtain ⟨v, ps, hr, hv⟩ := h1.lookup keyed Tryz.underlying66 (zero_part w) (anyR_mk _) (key_of hk)
  rw [(h2 k).2, hx] at hv
  rw [hr, anyR_inv hv]
theorem Shelf.look_ok {b nn : Nat} {w : World} {m : List Item} (h : Shelf b nn w m) {k : Int} (hk : (Lit.int .i64 k).wf = true) :
    (Instr.lookup 66 (.map (some b)) (.int .i64 k) true).run Tryz.prog w = .ok (.tuple #[(match lk k m with | some x => pv x | none => .agg #[.int .i64 0, .int .i64 0, .slice none 0 0, .int .i64 0, .int .i64 0, .int .i64 0, .int .i64 0]), .bool (lk k m).isSome]) w := by
  obtain ⟨D, h1, h2⟩ := h
  obtain ⟨v, ps, hr, hv⟩ := h1.look_ok keyed Tryz.underlying66 (zero_part w) (anyR_mk _) (key_of hk)
  rw [hr, show Go.Maps.has D (key k) = (lk k m).isSome from (h2 k).1]
  rw [(h2 k).2] at hv
  cases hx : lk k m with
  | none => rw [hx] at hv; rw [anyR_inv hv]
  | some x => rw [hx] at hv; rw [anyR_inv hv]
theorem Shelf.put {b nn : Nat} {w : World} {m m' : List Item} {x : Item} (h : Shelf b nn w m) (hn : nn ≤ 1000) (hk : (Lit.int .i64 x.1.d).wf = true) (hm : ∀ k, lk k m' = if k = x.1.d then some x else lk k m) :
    ∃ w', (Instr.mapUpdate 66 (.map (some b)) (.int .i64 x.1.d) (pv x)).run Tryz.prog w = .ok () w' ∧ Shelf b (nn + 1) w' m' ∧ Below b w w' ∧ w'.heap.size = w.heap.size ∧ (∀ i, i ≠ b → w'.heap[i]? = w.heap[i]?) := by
  obtain ⟨D, h1, h2⟩ := h
  obtain ⟨w', hr, h3, h4⟩ := h1.store keyed Tryz.underlying66 (by unfold maxLen; omega) (key_of hk) (anyR_mk (pv x))
  refine ⟨w', hr, ⟨_, h3, h2.put h1.isMap hm⟩, (Below.refl _ _).grown h4.grown (Nat.le_of_lt h1.lt) (fun k e => by injection e with e; omega), ?_, ?_⟩
  · obtain ⟨es, clock, es', clock', hb, rfl⟩ := h4
    simp [Go.ChangeMaps.setBlock]
  · intro i hi
    obtain ⟨es, clock, es', clock', hb, rfl⟩ := h4
    exact Go.ChangeMaps.heap_setBlock_other hb _ hi
theorem Shelf.drop {b nn : Nat} {w : World} {m m' : List Item} {k : Int} (h : Shelf b nn w m) (hk : (Lit.int .i64 k).wf = true) (hm : ∀ j, lk j m' = if j = k then none else lk j m) (ty : TypeId) :
    ∃ w', (Builtin.delete_ #[66, 3] ty #[.map (some b), .int .i64 k]).run Tryz.prog w = .ok (.tuple #[]) w' ∧ Shelf b nn w' m' ∧ Below b w w' ∧ w'.heap.size = w.heap.size ∧ (∀ i, i ≠ b → w'.heap[i]? = w.heap[i]?) := by
  obtain ⟨D, h1, h2⟩ := h
  obtain ⟨w', hr, h3, h4⟩ := h1.drop keyed Tryz.underlying66 (key_of hk) ty
  refine ⟨w', hr, ⟨_, h3, h2.del hm⟩, (Below.refl _ _).grown h4.grown (Nat.le_of_lt h1.lt) (fun k e => by injection e with e; omega), ?_, ?_⟩
  · obtain ⟨es, clock, es', clock', hb, rfl⟩ := h4
    simp [Go.ChangeMaps.setBlock]
  · intro i hi
    obtain ⟨es, clock, es', clock', hb, rfl⟩ := h4
    exact Go.ChangeMaps.heap_setBlock_other hb _ hi
theorem Shelf.size_le {b nn : Nat} {w : World} {m : List Item} (h : Shelf b nn w m) : b < w.heap.size := h.lt

/-- The items of a slice of parts. -/
def its (l : List Prt) (F : Nat → Body) (j : Nat) : List Item := (List.range j).map fun i => (pt l i, F i)
theorem its_next (l : List Prt) (F : Nat → Body) (j : Nat) : its l F (j + 1) = its l F j ++ [(pt l j, F j)] := by simp [its, List.range_succ]
theorem its_fst (l : List Prt) (F : Nat → Body) : (its l F l.length).map (·.1) = l := by
  apply List.ext_getElem (by simp [its])
  intro i h1 h2
  simp [its, pt, List.getD_eq_getElem?_getD, h2]
theorem its_mem {l : List Prt} {F : Nat → Body} {j : Nat} {x : Item} (h : x ∈ its l F j) : ∃ i, i < j ∧ x = (pt l i, F i) := by
  simp only [its, List.mem_map, List.mem_range] at h
  obtain ⟨i, h1, h2⟩ := h
  exact ⟨i, h1, h2.symm⟩
theorem its_rising {l : List Prt} (F : Nat → Body) (h : l.Pairwise (fun P Q => P.d < Q.d)) : Rising (its l F l.length) := by
  unfold Rising
  have e := its_fst l F
  rw [← e] at h
  exact (List.pairwise_map (f := fun x : Item => x.1) (R := fun P Q : Prt => P.d < Q.d)).1 h
theorem its_new {l : List Prt} (F : Nat → Body) (h : l.Pairwise (fun P Q => P.d < Q.d)) {j : Nat} (hj : j < l.length) : lk (pt l j).d (its l F j) = none := by
  refine lk_none.2 fun x hx e => ?_
  obtain ⟨i, hi, rfl⟩ := its_mem hx
  have hptm : ∀ i (hi : i < l.length), pt l i = l[i] := fun i hi => by simp [pt, List.getD_eq_getElem?_getD, hi]
  have := (List.pairwise_iff_getElem.1 h) i j (by omega) hj hi
  rw [← hptm _ hj, ← hptm i (by omega)] at this
  simp only at e
  omega
/-- The bodies of a slice of parts, by a function. -/
theorem PRow.pick {lo hi n : Nat} {w : World} {a : Option Addr} {l : List Prt} (h : PRow lo hi w a n l) : ∃ F : Nat → Body, ∀ i, i < n → ∃ b off, a = some ⟨b, off, none⟩ ∧ lo ≤ b ∧ b < hi ∧ Cells7 w b (off + i * 7) (pt l i) (F i).1 (F i).2 ∧ Lain lo hi w (pt l i) (F i).1 (F i).2 ∧ (pt l i).Wf := by
  have hi' : ∀ i, ∃ f : Body, i < n → ∃ b off, a = some ⟨b, off, none⟩ ∧ lo ≤ b ∧ b < hi ∧ Cells7 w b (off + i * 7) (pt l i) f.1 f.2 ∧ Lain lo hi w (pt l i) f.1 f.2 ∧ (pt l i).Wf := fun i => by
    by_cases hin : i < n
    · obtain ⟨b, off, A, c, h1, h2, h3, h4, h5, h6⟩ := h.at hin
      exact ⟨(A, c), fun _ => ⟨b, off, h1, h2, h3, h4, h5, h6⟩⟩
    · exact ⟨noBody, fun h => absurd h hin⟩
  exact ⟨fun i => Classical.choose (hi' i), fun i hin => Classical.choose_spec (hi' i) hin⟩

set_option maxHeartbeats 2000000 in
set_option maxRecDepth 100000 in
theorem shelf_of (lo hi : Nat) (w : World) (a : Option Addr) (n c : Nat) (l : List Prt) (F : Nat → Body) (hlen : l.length = n) (hn : n ≤ 30) (hrise : l.Pairwise (fun P Q => P.d < Q.d)) (hh : hi ≤ w.heap.size)
    (hF : ∀ i, i < n → ∃ b off, a = some ⟨b, off, none⟩ ∧ lo ≤ b ∧ b < hi ∧ Cells7 w b (off + i * 7) (pt l i) (F i).1 (F i).2 ∧ (pt l i).Wf) :
    Calls Tryz.prog 92 #[.slice a n c] w fun e w' => e = .returned (.map (some w.heap.size)) ∧ Shelf w.heap.size n w' (its l F n) ∧ Below w.heap.size w w' := by
  have HL := Lib.hid hlen
  have HR := Lib.hid hrise
  have h0 : Shelf w.heap.size 0 (w.alloc (.map #[] 0)) (its l F 0) := ⟨_, World.ownsMap_made w _ _ _, Dict.nil⟩
  have hb0 : Below w.heap.size w (w.alloc (.map #[] 0)) := (Below.refl _ _).alloc (Nat.le_refl _) _
  have hmm := @run_makeMap Tryz.prog
  clear hlen hrise
  go_enter Tryz.func92, Tryz.ntmps92
  go_wp2
  go_loopw [9] (fun i wr => ∃ j : Nat, j ≤ n ∧ i = .int .i64 j ∧ Shelf w.heap.size j wr (its l F j) ∧ Below w.heap.size w wr) (fun i _ => n - (Go.RowKit.intOf i).toNat)
  case atStart => exact ⟨0, Nat.zero_le _, rfl, h0, hb0⟩
  case round =>
    obtain ⟨j, hj, rfl, hs, hb⟩ := hrel
    clear h0 hb0
    by_cases hlt : j < n
    · obtain ⟨b, off, rfl, _, hbh, q0, wP⟩ := hF j hlt
      have q := q0.keep (hb.block _ (by omega))
      have hnew := its_new F HR.out (j := j) (by have := HL.out; omega)
      have hA : Below wr.heap.size wr (wr.alloc (.cells #[.int .i64 (pt l j).d, .int .i64 (pt l j).k, .slice (F j).1 (pt l j).zs.length (F j).2, .int .i64 (pt l j).h, .int .i64 (pt l j).p, .int .i64 (pt l j).q, .int .i64 (pt l j).u] 62)) := (Below.refl _ _).alloc (Nat.le_refl _) _
      have Q := Sept.new 62 (.int .i64 (pt l j).d) (.int .i64 (pt l j).k) (.slice (F j).1 (pt l j).zs.length (F j).2) (.int .i64 (pt l j).h) (.int .i64 (pt l j).p) (.int .i64 (pt l j).q) (.int .i64 (pt l j).u) wr
      obtain ⟨w5, hrun, hs5, hb5, _⟩ := (hs.below hA).put (x := (pt l j, F j)) (m' := its l F (j + 1)) (by omega) wP.1 (fun k => by rw [its_next]; exact lk_append k _ _ hnew)
      have hB := (hb.trans (hA.mono hb.size)).trans hb5
      simp only [pv] at hrun
      obtain ⟨x0, x1, x2, x3, x4, x5, x6⟩ := q.all
      obtain ⟨y0, y1, y2, y3, y4, y5, y6⟩ := Q.cells
      clear q0 q hF
      go_wp2
      go_roundw
      case rel => exact ⟨j + 1, by omega, by go_num, hs5, hB⟩
      case measure => simp [Go.RowKit.intOf]; omega
    · have hd : decide ((j : Int) < (n : Int)) = false := by simp; omega
      have HE := Lib.hid (show j = n by omega)
      go_wp2
      go_ret
      rw [HE.out] at hs
      exact ⟨rfl, hs, hb⟩
end Go.Proofs.YtedjclnojocjkaaGreatDoor.Parts
namespace Go.Proofs.YtedjclnojocjkaaGreatDoor.Parts
open Go Go.RowKit Go.Proofs.YtedjclnojocjkaaGreatDoor.Mem Go.Proofs.YtedjclnojocjkaaGreatDoor.Adr Go.Proofs.YtedjclnojocjkaaGreatDoor.Res Go.Proofs.YtedjclnojocjkaaGreatDoor.Errs

set_option maxHeartbeats 2000000 in
set_option maxRecDepth 100000 in
theorem find_yes (b nn : Nat) (w : World) (m : List Item) (k : Int) (x : Item) (hs : Shelf b nn w m) (hk : (Lit.int .i64 k).wf = true) (hx : lk k m = some x) :
    Calls Tryz.prog 76 #[.map (some b), .int .i64 k] w fun e w' => e = .returned (.tuple #[pv x, .nilIface]) ∧ Below w.heap.size w w' := by
  obtain ⟨P, A, c⟩ := x
  have hA : Below w.heap.size w (w.alloc (.cells #[.int .i64 0, .int .i64 0, .slice none 0 0, .int .i64 0, .int .i64 0, .int .i64 0, .int .i64 0] 62)) := (Below.refl _ _).alloc (Nat.le_refl _) _
  have hrun := (hs.below hA).look_ok hk
  rw [hx] at hrun
  simp only [pv, Option.isSome_some] at hrun
  have qR := (Sept.new 62 (.int .i64 0) (.int .i64 0) (.slice none 0 0) (.int .i64 0) (.int .i64 0) (.int .i64 0) (.int .i64 0) w).alloc (.cells #[.int .i64 P.d, .int .i64 P.k, .slice A P.zs.length c, .int .i64 P.h, .int .i64 P.p, .int .i64 P.q, .int .i64 P.u] 62)
  have qB := Sept.new 62 (.int .i64 P.d) (.int .i64 P.k) (.slice A P.zs.length c) (.int .i64 P.h) (.int .i64 P.p) (.int .i64 P.q) (.int .i64 P.u) (w.alloc (.cells #[.int .i64 0, .int .i64 0, .slice none 0 0, .int .i64 0, .int .i64 0, .int .i64 0, .int .i64 0] 62))
  rw [size_alloc] at qB
  obtain ⟨r0, r1, r2, r3, r4, r5, r6⟩ := qR.cells
  obtain ⟨f0, f1, f2, f3, f4, f5, f6⟩ := qR.frozen
  obtain ⟨y0, y1, y2, y3, y4, y5, y6⟩ := qB.cells
  clear hs
  go_enter Tryz.func76, Tryz.ntmps76
  go_wp2
  refine bodyPost_ret (v := .tuple #[pv (P, A, c), .nilIface]) (by simp [results, Tryz.results76, go_sem, pv]) rfl ⟨rfl, ?_⟩
  repeat' (first | exact Below.refl _ _ | assumption | refine Below.setCell ?_ ?_ _ | refine Below.alloc ?_ ?_ _ | refine Adr.below_drewN ?_ _ | refine Below.drew ?_ | exact Nat.le_refl _ | omega | (dsimp only; omega) | refine Adr.le_alloc ?_ | refine Adr.le_set ?_ | refine Adr.le_drewN ?_ | refine Adr.le_drew ?_)

set_option maxHeartbeats 2000000 in
set_option maxRecDepth 100000 in
theorem find_no (b nn : Nat) (w : World) (m : List Item) (k : Int) (a1 : Addr) (hs : Shelf b nn w m) (hk : (Lit.int .i64 k).wf = true) (hx : lk k m = none) (hg : NoPart a1 w) :
    Calls Tryz.prog 76 #[.map (some b), .int .i64 k] w fun e w' => ∃ v, e = .returned (.tuple #[v, sent a1]) ∧ (∃ d k A n c h p q u, v = (Value.agg #[Value.int IntKind.i64 (d), Value.int IntKind.i64 (k), Value.slice (A) (n) (c), Value.int IntKind.i64 (h), Value.int IntKind.i64 (p), Value.int IntKind.i64 (q), Value.int IntKind.i64 (u)])) ∧ Below w.heap.size w w' := by
  have hA : Below w.heap.size w (w.alloc (.cells #[.int .i64 0, .int .i64 0, .slice none 0 0, .int .i64 0, .int .i64 0, .int .i64 0, .int .i64 0] 62)) := (Below.refl _ _).alloc (Nat.le_refl _) _
  have hB : Below w.heap.size w ((w.alloc (.cells #[.int .i64 0, .int .i64 0, .slice none 0 0, .int .i64 0, .int .i64 0, .int .i64 0, .int .i64 0] 62)).alloc (.cells #[.int .i64 0, .int .i64 0, .slice none 0 0, .int .i64 0, .int .i64 0, .int .i64 0, .int .i64 0] 62)) := by repeat' (first | exact Below.refl _ _ | assumption | refine Below.setCell ?_ ?_ _ | refine Below.alloc ?_ ?_ _ | refine Adr.below_drewN ?_ _ | refine Below.drew ?_ | exact Nat.le_refl _ | omega | (dsimp only; omega) | refine Adr.le_alloc ?_ | refine Adr.le_set ?_ | refine Adr.le_drewN ?_ | refine Adr.le_drew ?_)
  have hrun := (hs.below hA).look_ok hk
  rw [hx] at hrun
  simp only [Option.isSome_none] at hrun
  have hgc : ((w.alloc (.cells #[.int .i64 0, .int .i64 0, .slice none 0 0, .int .i64 0, .int .i64 0, .int .i64 0, .int .i64 0] 62)).alloc (.cells #[.int .i64 0, .int .i64 0, .slice none 0 0, .int .i64 0, .int .i64 0, .int .i64 0, .int .i64 0] 62)).cell? ⟨1, 0, none⟩ = some (.iface 166 (.pointer (some a1))) := hg.below hB
  have qR := (Sept.new 62 (.int .i64 0) (.int .i64 0) (.slice none 0 0) (.int .i64 0) (.int .i64 0) (.int .i64 0) (.int .i64 0) w).alloc (.cells #[.int .i64 0, .int .i64 0, .slice none 0 0, .int .i64 0, .int .i64 0, .int .i64 0, .int .i64 0] 62)
  have hne := Mem.cell_lt hg
  have qRd := qR.drew
  obtain ⟨r0, r1, r2, r3, r4, r5, r6⟩ := qR.cells
  obtain ⟨f0, f1, f2, f3, f4, f5, f6⟩ := qR.frozen
  clear hs hg
  go_enter Tryz.func76, Tryz.ntmps76
  go_wp2_with fail
  go_region
  all_goals
    go_wp2
    refine bodyPost_ret (v := .tuple #[.agg #[.int .i64 0, .int .i64 0, .slice none 0 0, .int .i64 0, .int .i64 0, .int .i64 0, .int .i64 0], sent a1]) (by simp [results, Tryz.results76, go_sem, sent]) rfl ⟨_, rfl, ⟨0, 0, none, 0, 0, 0, 0, 0, 0, rfl⟩, ?_⟩
    repeat' (first | exact Below.refl _ _ | assumption | refine Below.setCell ?_ ?_ _ | refine Below.alloc ?_ ?_ _ | refine Adr.below_drewN ?_ _ | refine Below.drew ?_ | exact Nat.le_refl _ | omega | (dsimp only; omega) | refine Adr.le_alloc ?_ | refine Adr.le_set ?_ | refine Adr.le_drewN ?_ | refine Adr.le_drew ?_)

theorem Shelf.congr {b nn : Nat} {w : World} {m m' : List Item} (h : Shelf b nn w m) (hm : ∀ k, lk k m' = lk k m) : Shelf b nn w m' := by
  obtain ⟨D, h1, h2⟩ := h
  exact ⟨D, h1, fun k => by rw [hm k]; exact h2 k⟩

set_option maxHeartbeats 2000000 in
set_option maxRecDepth 100000 in
theorem take_yes (b nn : Nat) (w : World) (m : List Item) (P : Prt) (A : Option Addr) (c : Nat) (hs : Shelf b nn w m) (hn : nn ≤ 999) (hk : (Lit.int .i64 P.d).wf = true) (hx : lk P.d m = some (P, A, c)) (hr : Rising m) (hu : ∀ x ∈ m, 1 ≤ x.1.u) (hu2 : P.u ≤ 1000) :
    Calls Tryz.prog 54 #[.map (some b), .int .i64 P.d] w fun e w' => e = .returned .nilIface ∧ Shelf b (nn + 1) w' (tdI P.d m) ∧ Below b w w' := by
  have hF := find_yes b nn w m P.d (P, A, c) hs hk hx
  have hu1 := hu _ (lk_some hx).1
  simp only at hu1
  have hbl := hs.lt
  simp only [pv] at hF
  have hlk := lk_tdI (d := P.d) hr hu
  simp only [hx] at hlk
  have hw1 : IntKind.wrap .i64 (P.u - 1) = P.u - 1 := by rw [IntKind.wrap_i64]; omega
  have hnn : ∀ w : World, (binOp .neq 68 .nilIface .nilIface).run Tryz.prog w = .ok (.bool false) w := fun _ => rfl
  clear hr hu
  go_enter Tryz.func54, Tryz.ntmps54
  go_wp2_with fail
  go_at_call 76
  refine hF.mono ?_
  rintro e w1 ⟨rfl, hb1⟩
  have hs1 := hs.below hb1
  have hsz := hb1.size
  have hA : Below w1.heap.size w1 (w1.alloc (.cells #[.int .i64 P.d, .int .i64 P.k, .slice A P.zs.length c, .int .i64 P.h, .int .i64 P.p, .int .i64 P.q, .int .i64 P.u] 62)) := (Below.refl _ _).alloc (Nat.le_refl _) _
  have hB : Below w1.heap.size w1 (w1.alloc (.cells #[.int .i64 P.d, .int .i64 P.k, .slice A P.zs.length c, .int .i64 P.h, .int .i64 P.p, .int .i64 P.q, .int .i64 (P.u - 1)] 62)) := (Below.refl _ _).alloc (Nat.le_refl _) _
  have Q := Sept.new 62 (.int .i64 P.d) (.int .i64 P.k) (.slice A P.zs.length c) (.int .i64 P.h) (.int .i64 P.p) (.int .i64 P.q) (.int .i64 P.u) w1
  have Q2 := Sept.new 62 (.int .i64 P.d) (.int .i64 P.k) (.slice A P.zs.length c) (.int .i64 P.h) (.int .i64 P.p) (.int .i64 P.q) (.int .i64 (P.u - 1)) w1
  obtain ⟨w5, hrun, hs5, hb5, hsz5, hot5⟩ := (hs1.below hB).put (x := (dec P, A, c)) (m' := (dec P, A, c) :: m) (by omega) hk (fun k => by
    simp only [lk]
    by_cases h : (dec P).d = k
    · rw [if_pos h, if_pos h.symm]
    · rw [if_neg h, if_neg (fun e => h e.symm)])
  simp only [pv, dec] at hrun
  have hB5 : Below b w w5 := ((hb1.mono (Nat.le_of_lt hbl)).trans (hB.mono (by omega))).trans hb5
  have Q5 : Sept 62 w1.heap.size (.int .i64 P.d) (.int .i64 P.k) (.slice A P.zs.length c) (.int .i64 P.h) (.int .i64 P.p) (.int .i64 P.q) (.int .i64 (P.u - 1)) w5 := (hot5 _ (by omega)).trans Q2
  obtain ⟨x0, x1, x2, x3, x4, x5, x6⟩ := Q.cells
  obtain ⟨f0, f1, f2, f3, f4, f5, f6⟩ := Q.frozen
  obtain ⟨y0, y1, y2, y3, y4, y5, y6⟩ := Q2.cells
  obtain ⟨z0, z1, z2, z3, z4, z5, z6⟩ := Q5.cells
  clear hF
  by_cases h0 : 0 < P.u - 1
  · have he : (P.u - 1 == 0) = false := by simp; omega
    go_wp2
    go_ret
    refine ⟨rfl, hs5.congr fun k => ?_, hB5⟩
    rw [hlk k]
    simp only [lk]
    by_cases h : (dec P).d = k
    · rw [if_pos h, if_pos (show k = P.d from h.symm), if_pos h0]
    · rw [if_neg h, if_neg (show ¬ k = P.d from fun e => h e.symm)]
  · have he : (P.u - 1 == 0) = true := by simp; omega
    have hm6 : ∀ k, lk k (tdI P.d m) = if k = P.d then none else lk k ((dec P, A, c) :: m) := fun k => by
      rw [hlk k]
      simp only [lk]
      by_cases h : k = P.d
      · rw [if_pos h, if_pos h, if_neg h0]
      · rw [if_neg h, if_neg h, if_neg (show ¬ (dec P).d = k from fun e => h e.symm)]
    obtain ⟨w6, hrun6, hs6, hb6, _, _⟩ := hs5.drop hk hm6 0
    go_wp2
    go_ret
    exact ⟨rfl, hs6, hB5.trans hb6⟩

set_option maxHeartbeats 2000000 in
set_option maxRecDepth 100000 in
theorem take_no (b nn : Nat) (w : World) (m : List Item) (k : Int) (a1 : Addr) (hs : Shelf b nn w m) (hk : (Lit.int .i64 k).wf = true) (hx : lk k m = none) (hg : NoPart a1 w) :
    Calls Tryz.prog 54 #[.map (some b), .int .i64 k] w fun e w' => e = .returned (sent a1) ∧ Below w.heap.size w w' := by
  have hF := find_no b nn w m k a1 hs hk hx hg
  have hnn : ∀ w : World, (binOp .neq 68 (.iface 166 (.pointer (some a1))) .nilIface).run Tryz.prog w = .ok (.bool true) w := fun _ => rfl
  unfold sent at hF ⊢
  go_enter Tryz.func54, Tryz.ntmps54
  go_wp2_with fail
  go_at_call 76
  refine hF.mono ?_
  rintro e w1 ⟨_, rfl, ⟨d', k', A', n', c', h', p', q', u', rfl⟩, hb1⟩
  go_wp2
  go_ret
  exact ⟨rfl, hb1.alloc hb1.size _⟩

/-- Through the closure. -/
theorem taken_yes (b nn B : Nat) (w : World) (m : List Item) (P : Prt) (A : Option Addr) (c : Nat) (hB : w.cell? ⟨B, 0, none⟩ = some (.int .i64 P.d)) (hs : Shelf b nn w m) (hn : nn ≤ 999) (hk : (Lit.int .i64 P.d).wf = true) (hx : lk P.d m = some (P, A, c)) (hr : Rising m) (hu : ∀ x ∈ m, 1 ≤ x.1.u) (hu2 : P.u ≤ 1000) :
    Calls Tryz.prog 53 #[.map (some b), .pointer (some ⟨B, 0, none⟩)] w fun e w' => e = .returned .nilIface ∧ Shelf b (nn + 1) w' (tdI P.d m) ∧ Below b w w' := by
  have hT := take_yes b nn w m P A c hs hn hk hx hr hu hu2
  clear hs hx hr hu
  go_enter Tryz.func53, Tryz.ntmps53
  go_wp2_with fail
  go_at_call 54
  refine hT.mono ?_
  rintro e w1 ⟨rfl, h1, h2⟩
  go_wp2
  go_ret
  exact ⟨rfl, h1, h2⟩
theorem taken_no (b nn B : Nat) (w : World) (m : List Item) (k : Int) (a1 : Addr) (hB : w.cell? ⟨B, 0, none⟩ = some (.int .i64 k)) (hs : Shelf b nn w m) (hk : (Lit.int .i64 k).wf = true) (hx : lk k m = none) (hg : NoPart a1 w) :
    Calls Tryz.prog 53 #[.map (some b), .pointer (some ⟨B, 0, none⟩)] w fun e w' => e = .returned (sent a1) ∧ Below w.heap.size w w' := by
  have hT := take_no b nn w m k a1 hs hk hx hg
  clear hs hx hg
  go_enter Tryz.func53, Tryz.ntmps53
  go_wp2_with fail
  go_at_call 54
  refine hT.mono ?_
  rintro e w1 ⟨rfl, h1⟩
  unfold sent
  go_wp2
  go_ret
  exact ⟨rfl, h1⟩

set_option maxHeartbeats 4000000 in
set_option maxRecDepth 100000 in
theorem sorted_list (lo hi b nn : Nat) (w : World) (m : List Item) (hs : Shelf b nn w m) (hn : nn ≤ 1000) (hr : Rising m) (hm : room (m.map (·.1)) ≤ 1048577) (hmn : m.length ≤ 1000)
    (hb : ∀ x ∈ m, Lain lo hi w x.1 x.2.1 x.2.2 ∧ x.1.Wf) :
    Calls Tryz.prog 93 #[.map (some b)] w (PList w.heap.size m.length (m.map (·.1)) w) := by
  have h0 := PBuf.made 62 w.heap.size w (Nat.le_refl _)
  have hb0 : Below w.heap.size w (w.alloc (.cells #[] 62)) := by repeat' (first | exact Below.refl _ _ | assumption | refine Below.setCell ?_ ?_ _ | refine Below.alloc ?_ ?_ _ | refine Adr.below_drewN ?_ _ | refine Below.drew ?_ | exact Nat.le_refl _ | omega | (dsimp only; omega) | refine Adr.le_alloc ?_ | refine Adr.le_set ?_ | refine Adr.le_drewN ?_ | refine Adr.le_drew ?_)
  have hs0 : (w.alloc (.cells #[] 62)).heap.size = w.heap.size + 1 := size_alloc _ _
  obtain ⟨D, hown, hD⟩ := hs
  have hbl := hown.lt
  obtain ⟨W0, hW0⟩ : ∃ W0, W0 = w.alloc (.cells #[] 62) := ⟨_, rfl⟩
  have hown0 : W0.ownsMap Tryz.prog 3 anyR b nn D := by rw [hW0]; exact hown.alloc _
  have hK := keys_fn (some b) W0
  have hS := keys_sorted b nn D W0 hown0 (Nat.le_trans hown0.size_le hn)
  have hsl : Shelf b nn W0 m := ⟨D, hown0, hD⟩
  have hks := fun (ss : List Int) (h : ss.Perm (intKeys D)) => hr.keys hD Tryz.underlying3 hown h
  rw [← hW0] at h0 hb0 hs0
  rw [hs0] at hS hK
  have hz : ∀ i, i < m.length → ∃ x, m[i]? = some x ∧ lk x.1.d m = some x ∧ pt (m.map (·.1)) i = x.1 ∧ (m.map (·.1.d)).getD i 0 = x.1.d ∧ x.1.zs.length ≤ 1048576 ∧ Lain lo hi w x.1 x.2.1 x.2.2 ∧ x.1.Wf := by
    intro i hi'
    refine ⟨m[i], List.getElem?_eq_getElem hi', ?_, by simp [pt, List.getD_eq_getElem?_getD, hi'], by simp [List.getD_eq_getElem?_getD, hi'], ?_, hb _ (List.getElem_mem _)⟩
    · have hmem : m[i].1.d ∈ m.map (·.1.d) := List.mem_map.2 ⟨_, List.getElem_mem hi', rfl⟩
      cases hx : lk m[i].1.d m with
      | none => exact absurd rfl (lk_none.1 hx m[i] (List.getElem_mem hi'))
      | some y =>
        obtain ⟨h1, h2⟩ := lk_some hx
        obtain ⟨j, hj, rfl⟩ := List.mem_iff_getElem.1 h1
        rcases Nat.lt_trichotomy i j with h3 | h3 | h3
        · have := (List.pairwise_iff_getElem.1 hr) i j hi' hj h3; omega
        · subst h3; rfl
        · have := (List.pairwise_iff_getElem.1 hr) j i hj hi' h3; omega
    · have h3 := bodies_take (m.map (·.1)) i (by simpa using hi')
      have h5 := bodies_le (m.map (·.1)) (i + 1)
      have h6 := room_eq (m.map (·.1))
      have h7 : (m.map (·.1)).length = m.length := List.length_map _
      have h4 : pt (m.map (·.1)) i = m[i].1 := by simp [pt, List.getD_eq_getElem?_getD, hi']
      rw [h4] at h3
      omega
  clear hown hown0 hb hm hr
  have hwf : ∀ z ∈ m.map (·.1.d), (Lit.int .i64 z).wf = true := by
    intro z hz'
    obtain ⟨x, hx, rfl⟩ := List.mem_map.1 hz'
    obtain ⟨i, hi', rfl⟩ := List.mem_iff_getElem.1 hx
    obtain ⟨y, h1, _, _, _, _, _, h2⟩ := hz i hi'
    rw [List.getElem?_eq_getElem hi'] at h1
    injection h1 with h1
    rw [h1]; exact h2.1
  subst hW0
  go_enter Tryz.func93, Tryz.ntmps93
  go_wp2_with fail
  go_at_call 100
  refine hK.mono ?_
  rintro e w1 ⟨rfl, rfl⟩
  go_wp2_with fail
  go_at_call 99
  refine hS.mono ?_
  rintro e w2 ⟨v, ss, rfl, hperm, hrow, hb2⟩
  rw [hks ss hperm] at hrow
  have hI : OwnI .i64 3 (w.heap.size + 1 + 1) w2 v ss.length (m.map (·.1.d)) := hrow
  have hN : ss.length = m.length := by have := hI.len; simpa using this.symm
  obtain ⟨ka, kc, rfl, _, _, hkr⟩ := hI.own hwf
  rw [hN] at hkr
  obtain ⟨W1, hW1⟩ : ∃ W1, W1 = (w.alloc (.cells #[] 62)).alloc (.cells #[.map (some b)] 66) := ⟨_, rfl⟩
  have hB1 : Below (w.heap.size + 1) (w.alloc (.cells #[] 62)) W1 := by rw [hW1]; exact (Below.refl _ _).alloc (by rw [hs0]; omega) _
  have hsW1 : W1.heap.size = w.heap.size + 2 := by rw [hW1]; simp only [size_alloc]
  rw [← hW1] at hb2
  have hs2 := hb2.size
  have h2 := (h0.under hB1 (by omega)).under hb2 (by omega)
  have hB2 : Below w.heap.size w w2 := (hb0.trans (hB1.mono (by omega))).trans (hb2.mono (by omega))
  have hS2 : Shelf b nn w2 m := (hsl.keep (hB1.block _ (by omega))).keep (hb2.block _ (by omega))
  have hk2 := hkr.row
  obtain ⟨Nn, hNn⟩ : ∃ Nn, ss.length = Nn := ⟨_, rfl⟩
  rw [hNn] at hN
  rw [← hN] at hk2 hz
  have hNn' : Nn ≤ 1000 := by omega
  have HN := Lib.hid hN
  clear hS hK hks hperm hrow hI hkr hb2 hB1 hW1 hwf hN hmn hs0 hb0 hsl hD
  rw [hNn]
  clear hNn
  go_wp2
  go_loopw [3, 11] (fun v i wr => ∃ (j : Nat) (G : List Body), j ≤ Nn ∧ i = .int .i64 j ∧ PBuf 62 w.heap.size wr.heap.size wr v j ((m.map (·.1)).take j) G ∧ (∀ x, v.ownBlock = some x → x = w.heap.size ∨ w2.heap.size ≤ x) ∧ Row .i64 (w.heap.size + 1 + 1) w2.heap.size wr ka Nn (m.map (·.1.d)) ∧ Below w.heap.size w wr ∧ w2.heap.size ≤ wr.heap.size) (fun _ i _ => Nn - (Go.RowKit.intOf i).toNat)
  case atStart => exact ⟨0, [], Nat.zero_le _, rfl, by simpa using (h2.more (by omega)), fun x hx => by simp [Value.ownBlock] at hx; exact .inl hx.symm, hk2, hB2, Nat.le_refl _⟩
  case round =>
    obtain ⟨j, G, hj, rfl, hv, hvx, hk, hbr, hsr⟩ := hrel
    clear h2 hk2
    obtain ⟨va, vc, rfl⟩ := hv.slice
    by_cases hlt : j < Nn
    · obtain ⟨bk, ok, rfl, _, hbk, hck⟩ := hk.cell hlt
      obtain ⟨x, hx1, hx2, hx3, hx4, hxz, hla, wP⟩ := hz j hlt
      rw [hx4] at hck
      have hsh : Shelf b nn wr m := hS2.keep ((hbr.block _ hbl).trans (hB2.block _ hbl).symm)
      have hrun := hsh.look wP.1 hx2
      have HT := Lib.hid (take_next (l := m.map (·.1)) (j := j) (by have := HN.out; simp; omega))
      rw [hx3] at HT
      obtain ⟨P, A, cc⟩ := x
      simp only [pv] at hrun
      simp only at hck hxz hla wP HT
      have hbs := hbr.size
      have hC := copy_part lo hi P.d P.k P.h P.p P.q P.u wr A P.zs.length cc P.zs (hla.row.below hbr) hxz
      clear hx1 hx2 hx3 hx4 hla hsh
      go_wp2_with fail
      go_at_call 94
      refine hC.mono ?_
      rintro e w9 ⟨a', c', rfl, hO, hnc, hcm, hb9⟩
      have hs9 := hb9.size
      have hA : Below w9.heap.size w9 (w9.alloc (.cells #[.int .i64 P.d, .int .i64 P.k, .slice a' P.zs.length c', .int .i64 P.h, .int .i64 P.p, .int .i64 P.q, .int .i64 P.u] 62)) := (Below.refl _ _).alloc (Nat.le_refl _) _
      have hvA := (hv.under hb9 (Nat.le_refl _)).under hA hs9
      have hOA := (hO.below hA).more (Nat.le_refl _) hA.size
      have sA := Sept.new 62 (.int .i64 P.d) (.int .i64 P.k) (.slice a' P.zs.length c') (.int .i64 P.h) (.int .i64 P.p) (.int .i64 P.q) (.int .i64 P.u) w9
      have bA := (hbr.trans (hb9.mono hbs)).trans (hA.mono (Nat.le_trans hbs hs9))
      have kA := (hk.under hb9 hsr).under hA (Nat.le_trans hsr hs9)
      have hsA := hA.size
      clear hC hrun
      go_wp2_with (at_builtin; refine wpList_append_parts_at (M := wr.heap.size) rfl _ _ rfl hvA (News.one sA hOA hnc hcm wP) ?c1 ?c2 ?c3 rfl rfl ?_; (case c1 => exact hbs); (case c2 => omega); (case c3 => omega); intro v' w5 hv5 hb5 hg5 ha5)
      rw [← HT.out] at hv5
      have k5 : Row .i64 (w.heap.size + 1 + 1) w2.heap.size w5 (some ⟨bk, ok, none⟩) Nn (m.map (·.1.d)) := kA.keep fun i h1 h2 h3 => hg5.block i h1 (fun e => by have := hvx i e.symm; omega)
      have hx5 : ∀ x, v'.ownBlock = some x → x = w.heap.size ∨ w2.heap.size ≤ x := fun x hx => by
        rcases ha5 with e | e
        · exact hvx x (e ▸ hx)
        · rw [e] at hx
          injection hx with hx
          right; omega
      have hs5 := hb5.size
      obtain ⟨va', vc', rfl⟩ := hv5.slice
      go_wp2
      go_roundw
      case rel => exact ⟨j + 1, _, by omega, by go_num, hv5, hx5, k5, bA.trans hb5, by omega⟩
      case measure => simp [Go.RowKit.intOf]; omega
    · have hd : decide ((j : Int) < (Nn : Int)) = false := by simp; omega
      have HE := Lib.hid (show j = Nn by omega)
      go_wp2
      go_ret
      have e := HN.out
      rw [HE.out, e, List.take_of_length_le (by simp)] at hv
      exact ⟨_, G, rfl, by rw [HE.out, e]; exact hv, hbr⟩
end Go.Proofs.YtedjclnojocjkaaGreatDoor.Parts
