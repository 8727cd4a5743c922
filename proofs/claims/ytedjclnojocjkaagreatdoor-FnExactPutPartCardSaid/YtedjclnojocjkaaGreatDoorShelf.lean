/-
  The program's map of parts: made of a slice, asked, written.
  Conditions: the parts lie in memory.
-/
import Derived.Test.YtedjclnojocjkaaGreatDoorKeys
import Derived.Test.YtedjclnojocjkaaGreatDoorCopyI
import Derived.Test.YtedjclnojocjkaaGreatDoorStoreI
import Derived.Test.YtedjclnojocjkaaGreatDoorTakeS
import Derived.Carry
namespace Go.Proofs.YtedjclnojocjkaaGreatDoor.Parts
open Go Go.RowKit Go.Proofs.YtedjclnojocjkaaGreatDoor.Mem Go.Proofs.YtedjclnojocjkaaGreatDoor.Adr Go.Proofs.YtedjclnojocjkaaGreatDoor.Res Go.Proofs.YtedjclnojocjkaaGreatDoor.Errs
open Go.Maps (int_keyed keyOf_int_mk IsMap)

def NoPart (a1 : Addr) (w : World) : Prop := w.cell? ⟨1, 0, none⟩ = some (sent a1)
theorem NoPart.below {a1 : Addr} {w w' : World} (h : NoPart a1 w) (hb : Below w.heap.size w w') : NoPart a1 w' := (Mem.cell_of_heap (hb.block _ (Mem.cell_lt h))).trans h
theorem NoPart.zone {a1 : Addr} {w w' : World} {lo hi : Nat} (h : NoPart a1 w) (hz : Zone lo hi w w') (hl : 1 < lo ∨ hi ≤ 1) : NoPart a1 w' := (Mem.cell_of_heap (hz.block _ (Mem.cell_lt h) hl)).trans h

/-- Block b holds a map that reads as the items m. -/
def Shelf (b nn : Nat) (w : World) (m : List Item) : Prop := ∃ D : DataW Value, w.ownsMap Tryz.prog 3 anyR b nn D ∧ Dict D m
theorem Shelf.keep {b nn : Nat} {w w' : World} {m : List Item} (h : Shelf b nn w m) (hb : w'.heap[b]? = w.heap[b]?) : Shelf b nn w' m := by
  obtain ⟨D, ⟨es, clock, h1, h2⟩, h3⟩ := h
  exact ⟨D, ⟨es, clock, hb.trans h1, h2⟩, h3⟩
theorem Shelf.lt {b nn : Nat} {w : World} {m : List Item} (h : Shelf b nn w m) : b < w.heap.size := by
  obtain ⟨D, h1, _⟩ := h
  exact h1.lt
theorem Shelf.below {b nn : Nat} {w w' : World} {m : List Item} (h : Shelf b nn w m) (hb : Below w.heap.size w w') : Shelf b nn w' m := h.keep (hb.block _ h.lt)
theorem zero_part (w : World) : (zeroValue 62).run Tryz.prog w = .ok (.agg #[.int .i64 0, .int .i64 0, .slice none 0 0, .int .i64 0, .int .i64 0, .int .i64 0, .int .i64 0]) w := by kernel_rfl
theorem keyed : Go.Maps.Keyed Tryz.prog 3 := int_keyed Tryz.underlying3
theorem key_of {k : Int} (h : (Lit.int .i64 k).wf = true) : keyOf Tryz.prog 3 (.int .i64 k) = some (key k) := keyOf_int_mk Tryz.underlying3 h
theorem anyR_mk (v : Value) : anyR v = some (.held v, []) := rfl
theorem anyR_inv {v u : Value} {ps : List MemPlace} (h : anyR v = some (.held u, ps)) : v = u := by
  unfold anyR at h
  injection h with h
  injection h with h _
  injection h

/-- What is found under a digest. -/
theorem Shelf.look {b nn : Nat} {w : World} {m : List Item} {x : Item} (h : Shelf b nn w m) {k : Int} (hk : (Lit.int .i64 k).wf = true) (hx : lk k m = some x) :
    (Instr.lookup 66 (.map (some b)) (.int .i64 k) false).run Tryz.prog w = .ok (pv x) w := by
  obtain ⟨D, h1, h2⟩ := h
  obtain ⟨v, ps, hr, hv⟩ := h1.lookup keyed Tryz.underlying66 (zero_part w) (anyR_mk _) (key_of hk)
  rw [(h2 k).2, hx] at hv
  rw [hr, anyR_inv hv]
theorem Shelf.look_ok {b nn : Nat} {w : World} {m : List Item} (h : Shelf b nn w m) {k : Int} (hk : (Lit.int .i64 k).wf = true) :
    (Instr.lookup 66 (.map (some b)) (.int .i64 k) true).run Tryz.prog w = .ok (.tuple #[(match lk k m with | some x => pv x | none => .agg #[.int .i64 0, .int .i64 0, .slice none 0 0, .int .i64 0, .int .i64 0, .int .i64 0, .int .i64 0]), .bool (lk k m).isSome]) w := by
  obtain ⟨D, h1, h2⟩ := h
  obtain ⟨v, ps, hr, hv⟩ := h1.look_ok keyed Tryz.underlying66 (zero_part w) (anyR_mk _) (key_of hk)
  rw [hr, show Go.Maps.has D (key k) = (lk k m).isSome from (h2 k).1]
  rw [(h2 k).2] at hv
  cases hx : lk k m with
  | none => rw [hx] at hv; rw [anyR_inv hv]
  | some x => rw [hx] at hv; rw [anyR_inv hv]
theorem Shelf.put {b nn : Nat} {w : World} {m m' : List Item} {x : Item} (h : Shelf b nn w m) (hn : nn ≤ 1000) (hk : (Lit.int .i64 x.1.d).wf = true) (hm : ∀ k, lk k m' = if k = x.1.d then some x else lk k m) :
    ∃ w', (Instr.mapUpdate 66 (.map (some b)) (.int .i64 x.1.d) (pv x)).run Tryz.prog w = .ok () w' ∧ Shelf b (nn + 1) w' m' ∧ Below b w w' ∧ w'.heap.size = w.heap.size ∧ (∀ i, i ≠ b → w'.heap[i]? = w.heap[i]?) := by
  obtain ⟨D, h1, h2⟩ := h
  obtain ⟨w', hr, h3, h4⟩ := h1.store keyed Tryz.underlying66 (by unfold maxLen; omega) (key_of hk) (anyR_mk (pv x))
  refine ⟨w', hr, ⟨_, h3, h2.put h1.isMap hm⟩, (Below.refl _ _).grown h4.grown (Nat.le_of_lt h1.lt) (fun k e => by injection e with e; omega), ?_, ?_⟩
  · obtain ⟨es, clock, es', clock', hb, rfl⟩ := h4
    simp [Go.ChangeMaps.setBlock]
  · intro i hi
    obtain ⟨es, clock, es', clock', hb, rfl⟩ := h4
    exact Go.ChangeMaps.heap_setBlock_other hb _ hi
theorem Shelf.drop {b nn : Nat} {w : World} {m m' : List Item} {k : Int} (h : Shelf b nn w m) (hk : (Lit.int .i64 k).wf = true) (hm : ∀ j, lk j m' = if j = k then none else lk j m) (ty : TypeId) :
    ∃ w', (Builtin.delete_ #[66, 3] ty #[.map (some b), .int .i64 k]).run Tryz.prog w = .ok (.tuple #[]) w' ∧ Shelf b nn w' m' ∧ Below b w w' ∧ w'.heap.size = w.heap.size ∧ (∀ i, i ≠ b → w'.heap[i]? = w.heap[i]?) := by
  obtain ⟨D, h1, h2⟩ := h
  obtain ⟨w', hr, h3, h4⟩ := h1.drop keyed Tryz.underlying66 (key_of hk) ty
  refine ⟨w', hr, ⟨_, h3, h2.del hm⟩, (Below.refl _ _).grown h4.grown (Nat.le_of_lt h1.lt) (fun k e => by injection e with e; omega), ?_, ?_⟩
  · obtain ⟨es, clock, es', clock', hb, rfl⟩ := h4
    simp [Go.ChangeMaps.setBlock]
  · intro i hi
    obtain ⟨es, clock, es', clock', hb, rfl⟩ := h4
    exact Go.ChangeMaps.heap_setBlock_other hb _ hi
theorem Shelf.size_le {b nn : Nat} {w : World} {m : List Item} (h : Shelf b nn w m) : b < w.heap.size := h.lt

/-- The items of a slice of parts. -/
def its (l : List Prt) (F : Nat → Body) (j : Nat) : List Item := (List.range j).map fun i => (pt l i, F i)
theorem its_next (l : List Prt) (F : Nat → Body) (j : Nat) : its l F (j + 1) = its l F j ++ [(pt l j, F j)] := by simp [its, List.range_succ]
theorem its_fst (l : List Prt) (F : Nat → Body) : (its l F l.length).map (·.1) = l := by
  apply List.ext_getElem (by simp [its])
  intro i h1 h2
  simp [its, pt, List.getD_eq_getElem?_getD, h2]
theorem its_mem {l : List Prt} {F : Nat → Body} {j : Nat} {x : Item} (h : x ∈ its l F j) : ∃ i, i < j ∧ x = (pt l i, F i) := by
  simp only [its, List.mem_map, List.mem_range] at h
  obtain ⟨i, h1, h2⟩ := h
  exact ⟨i, h1, h2.symm⟩
theorem its_rising {l : List Prt} (F : Nat → Body) (h : l.Pairwise (fun P Q => P.d < Q.d)) : Rising (its l F l.length) := by
  unfold Rising
  have e := its_fst l F
  rw [← e] at h
  exact (List.pairwise_map (f := fun x : Item => x.1) (R := fun P Q : Prt => P.d < Q.d)).1 h
theorem its_new {l : List Prt} (F : Nat → Body) (h : l.Pairwise (fun P Q => P.d < Q.d)) {j : Nat} (hj : j < l.length) : lk (pt l j).d (its l F j) = none := by
  refine lk_none.2 fun x hx e => ?_
  obtain ⟨i, hi, rfl⟩ := its_mem hx
  have hptm : ∀ i (hi : i < l.length), pt l i = l[i] := fun i hi => by simp [pt, List.getD_eq_getElem?_getD, hi]
  have := (List.pairwise_iff_getElem.1 h) i j (by omega) hj hi
  rw [← hptm _ hj, ← hptm i (by omega)] at this
  simp only at e
  omega
/-- The bodies of a slice of parts, by a function. -/
theorem PRow.pick {lo hi n : Nat} {w : World} {a : Option Addr} {l : List Prt} (h : PRow lo hi w a n l) : ∃ F : Nat → Body, ∀ i, i < n → ∃ b off, a = some ⟨b, off, none⟩ ∧ lo ≤ b ∧ b < hi ∧ Cells7 w b (off + i * 7) (pt l i) (F i).1 (F i).2 ∧ Lain lo hi w (pt l i) (F i).1 (F i).2 ∧ (pt l i).Wf := by
  have hi' : ∀ i, ∃ f : Body, i < n → ∃ b off, a = some ⟨b, off, none⟩ ∧ lo ≤ b ∧ b < hi ∧ Cells7 w b (off + i * 7) (pt l i) f.1 f.2 ∧ Lain lo hi w (pt l i) f.1 f.2 ∧ (pt l i).Wf := fun i => by
    by_cases hin : i < n
    · obtain ⟨b, off, A, c, h1, h2, h3, h4, h5, h6⟩ := h.at hin
      exact ⟨(A, c), fun _ => ⟨b, off, h1, h2, h3, h4, h5, h6⟩⟩
    · exact ⟨noBody, fun h => absurd h hin⟩
  exact ⟨fun i => Classical.choose (hi' i), fun i hin => Classical.choose_spec (hi' i) hin⟩

set_option maxHeartbeats 2000000 in
set_option maxRecDepth 100000 in
theorem shelf_of (lo hi : Nat) (w : World) (a : Option Addr) (n c : Nat) (l : List Prt) (F : Nat → Body) (hlen : l.length = n) (hn : n ≤ 30) (hrise : l.Pairwise (fun P Q => P.d < Q.d)) (hh : hi ≤ w.heap.size)
    (hF : ∀ i, i < n → ∃ b off, a = some ⟨b, off, none⟩ ∧ lo ≤ b ∧ b < hi ∧ Cells7 w b (off + i * 7) (pt l i) (F i).1 (F i).2 ∧ (pt l i).Wf) :
    Calls Tryz.prog 92 #[.slice a n c] w fun e w' => e = .returned (.map (some w.heap.size)) ∧ Shelf w.heap.size n w' (its l F n) ∧ Below w.heap.size w w' := by
  have HL := Lib.hid hlen
  have HR := Lib.hid hrise
  have h0 : Shelf w.heap.size 0 (w.alloc (.map #[] 0)) (its l F 0) := ⟨_, World.ownsMap_made w _ _ _, Dict.nil⟩
  have hb0 : Below w.heap.size w (w.alloc (.map #[] 0)) := (Below.refl _ _).alloc (Nat.le_refl _) _
  have hmm := @run_makeMap Tryz.prog
  clear hlen hrise
  go_enter Tryz.func92, Tryz.ntmps92
  go_wp2
  go_loopw [9] (fun i wr => ∃ j : Nat, j ≤ n ∧ i = .int .i64 j ∧ Shelf w.heap.size j wr (its l F j) ∧ Below w.heap.size w wr) (fun i _ => n - (Go.RowKit.intOf i).toNat)
  case atStart => exact ⟨0, Nat.zero_le _, rfl, h0, hb0⟩
  case round =>
    obtain ⟨j, hj, rfl, hs, hb⟩ := hrel
    clear h0 hb0
    by_cases hlt : j < n
    · obtain ⟨b, off, rfl, _, hbh, q0, wP⟩ := hF j hlt
      have q := q0.keep (hb.block _ (by omega))
      have hnew := its_new F HR.out (j := j) (by have := HL.out; omega)
      have hA : Below wr.heap.size wr (wr.alloc (.cells #[.int .i64 (pt l j).d, .int .i64 (pt l j).k, .slice (F j).1 (pt l j).zs.length (F j).2, .int .i64 (pt l j).h, .int .i64 (pt l j).p, .int .i64 (pt l j).q, .int .i64 (pt l j).u] 62)) := (Below.refl _ _).alloc (Nat.le_refl _) _
      have Q := Sept.new 62 (.int .i64 (pt l j).d) (.int .i64 (pt l j).k) (.slice (F j).1 (pt l j).zs.length (F j).2) (.int .i64 (pt l j).h) (.int .i64 (pt l j).p) (.int .i64 (pt l j).q) (.int .i64 (pt l j).u) wr
      obtain ⟨w5, hrun, hs5, hb5, _⟩ := (hs.below hA).put (x := (pt l j, F j)) (m' := its l F (j + 1)) (by omega) wP.1 (fun k => by rw [its_next]; exact lk_append k _ _ hnew)
      have hB := (hb.trans (hA.mono hb.size)).trans hb5
      simp only [pv] at hrun
      obtain ⟨x0, x1, x2, x3, x4, x5, x6⟩ := q.all
      obtain ⟨y0, y1, y2, y3, y4, y5, y6⟩ := Q.cells
      clear q0 q hF
      go_wp2
      go_roundw
      case rel => exact ⟨j + 1, by omega, by go_num, hs5, hB⟩
      case measure => simp [Go.RowKit.intOf]; omega
    · have hd : decide ((j : Int) < (n : Int)) = false := by simp; omega
      have HE := Lib.hid (show j = n by omega)
      go_wp2
      go_ret
      rw [HE.out] at hs
      exact ⟨rfl, hs, hb⟩
end Go.Proofs.YtedjclnojocjkaaGreatDoor.Parts
