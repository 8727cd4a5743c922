/-
  Addresses by value: toAddress, eqAddress, and IsAddress of the program and of the model.
  Conditions: none.
-/
import Derived.Test.YtpemjlmopnndbaaDoorRange
import Derived.Test.YtpemjlmopnndbaaDoorAddrMath
import Derived.Below
import Derived.Laws.Rows
import Derived.OneCell
import Derived.Laws.IdiomStrings
namespace Go.Proofs.YtpemjlmopnndbaaDoor.Adr
open Go Go.RowKit Go.Proofs.YtpemjlmopnndbaaDoor.Range

theorem size_alloc (w : World) (o : Obj) : (w.alloc o).heap.size = w.heap.size + 1 := by show (w.heap.push o).size = _; simp
theorem size_set (w : World) (a : Addr) (v : Value) : (w.setCell a v).heap.size = w.heap.size := by show (w.heap.modify a.block _).size = _; simp
theorem size_drewN (w : World) (n : Nat) : (w.drewN n).heap.size = w.heap.size := rfl
theorem size_drew (w : World) : w.drew.heap.size = w.heap.size := rfl
theorem le_alloc {B : Nat} {w : World} {o : Obj} (h : B ≤ w.heap.size) : B ≤ (w.alloc o).heap.size := by rw [size_alloc]; omega
theorem le_set {B : Nat} {w : World} {a : Addr} {v : Value} (h : B ≤ w.heap.size) : B ≤ (w.setCell a v).heap.size := by rw [size_set]; exact h
theorem le_drewN {B : Nat} {w : World} {n : Nat} (h : B ≤ w.heap.size) : B ≤ (w.drewN n).heap.size := h
theorem le_drew {B : Nat} {w : World} (h : B ≤ w.heap.size) : B ≤ w.drew.heap.size := h
theorem below_drewN {B : Nat} {a w : World} (h : Below B a w) (n : Nat) : Below B a (w.drewN n) := ⟨h.os, h.tape, h.output, h.size, h.block⟩

theorem cell_of_heap {w w' : World} {b o : Nat} (h : w'.heap[b]? = w.heap[b]?) : w'.cell? ⟨b, o, none⟩ = w.cell? ⟨b, o, none⟩ := by
  unfold World.cell?; simp only; rw [h]
theorem cell_lt {w : World} {b o : Nat} {v : Value} (h : w.cell? ⟨b, o, none⟩ = some v) : b < w.heap.size := by
  unfold World.cell? at h
  simp only at h
  cases hx : w.heap[b]? with
  | none => rw [hx] at h; simp at h
  | some x => exact (Array.getElem?_eq_some_iff.1 hx).1
theorem cell_below {w w' : World} {b o : Nat} {v : Value} (h : w.cell? ⟨b, o, none⟩ = some v) (hb : Below w.heap.size w w') : w'.cell? ⟨b, o, none⟩ = some v := by
  rw [cell_of_heap (hb.block b (cell_lt h))]; exact h
/-- Block b holds three integers. -/
def Box3 (w : World) (b : Nat) (h p q : Int) : Prop := w.cell? ⟨b, 0, none⟩ = some (.int .i64 h) ∧ w.cell? ⟨b, 1, none⟩ = some (.int .i64 p) ∧ w.cell? ⟨b, 2, none⟩ = some (.int .i64 q)
theorem box_new (w : World) (T : TypeId) (h p q : Int) : Box3 (w.alloc (.cells #[.int .i64 h, .int .i64 p, .int .i64 q] T)) w.heap.size h p q := by
  refine ⟨?_, ?_, ?_⟩
  · rw [World.cell?_alloc_mark w _ T (0, 0) 0]; rfl
  · rw [World.cell?_alloc_mark w _ T (0, 0) 1]; rfl
  · rw [World.cell?_alloc_mark w _ T (0, 0) 2]; rfl
theorem Box3.below {w w' : World} {b : Nat} {h p q : Int} (k : Box3 w b h p q) (hb : Below w.heap.size w w') : Box3 w' b h p q := ⟨cell_below k.1 hb, cell_below k.2.1 hb, cell_below k.2.2 hb⟩
theorem Box3.alloc {w : World} {b : Nat} {h p q : Int} (k : Box3 w b h p q) (o : Obj) : Box3 (w.alloc o) b h p q := k.below ((Below.refl _ _).alloc (Nat.le_refl _) _)
theorem Box3.lt {w : World} {b : Nat} {h p q : Int} (k : Box3 w b h p q) : b < w.heap.size := cell_lt k.1

set_option maxRecDepth 100000 in
theorem to_addr (h p q : Int) (w : World) :
    Calls Tryd.prog 11 #[(Value.agg #[Value.int IntKind.i64 (h), Value.int IntKind.i64 (p), Value.int IntKind.i64 (q)])] w fun e w' => e = .returned (Value.agg #[Value.int IntKind.i64 (h), Value.int IntKind.i64 (p), Value.int IntKind.i64 (q)]) ∧ Below w.heap.size w w' := by
  go_enter Tryd.func11, Tryd.ntmps11
  go_wp2
  refine bodyPost_ret (v := (Value.agg #[Value.int IntKind.i64 (h), Value.int IntKind.i64 (p), Value.int IntKind.i64 (q)])) (by simp [results, Tryd.results11, go_sem]) rfl ⟨rfl, ?_⟩
  repeat' (first | exact Below.refl _ _ | assumption | refine Below.setCell ?_ ?_ _ | refine Below.alloc ?_ ?_ _ | refine Adr.below_drewN ?_ _ | refine Below.drew ?_ | exact Nat.le_refl _ | omega | (dsimp only; omega) | refine Adr.le_alloc ?_ | refine Adr.le_set ?_ | refine Adr.le_drewN ?_ | refine Adr.le_drew ?_)

set_option maxRecDepth 100000 in
theorem is_impl (h p q : Int) (w : World) :
    Calls Tryd.prog 13 #[(Value.agg #[Value.int IntKind.i64 (h), Value.int IntKind.i64 (p), Value.int IntKind.i64 (q)])] w fun e w' => e = .returned (.bool (okA h p q)) ∧ Below w.heap.size w w' := by
  by_cases h0 : 1 ≤ h ∧ h ≤ 9
  · by_cases p0 : 0 ≤ p ∧ p ≤ 99
    · by_cases q0 : 0 ≤ q ∧ q ≤ 99
      · have k : okA h p q = true := by unfold okA; simp; omega
        rw [k]
        go_enter Tryd.func13, Tryd.ntmps13
        go_wp2_with (go_at_call 18; refine (in_yes _ _ _ _ (by omega) (by omega)).mono ?_; rintro e w1 ⟨rfl, rfl⟩)
        go_ret
        exact ⟨rfl, (Below.refl _ _).alloc (Nat.le_refl _) _⟩
      · have k : okA h p q = false := by unfold okA; simp; omega
        rw [k]
        go_enter Tryd.func13, Tryd.ntmps13
        go_wp2_with (go_at_call 18; first | (refine (in_yes _ _ _ _ (by omega) (by omega)).mono ?_; rintro e w1 ⟨rfl, rfl⟩) | (refine (in_no _ _ _ _ (by omega)).mono ?_; rintro e w1 ⟨rfl, rfl⟩))
        go_ret
        exact ⟨rfl, (Below.refl _ _).alloc (Nat.le_refl _) _⟩
    · have k : okA h p q = false := by unfold okA; simp; omega
      rw [k]
      go_enter Tryd.func13, Tryd.ntmps13
      go_wp2_with (go_at_call 18; first | (refine (in_yes _ _ _ _ (by omega) (by omega)).mono ?_; rintro e w1 ⟨rfl, rfl⟩) | (refine (in_no _ _ _ _ (by omega)).mono ?_; rintro e w1 ⟨rfl, rfl⟩))
      go_ret
      exact ⟨rfl, (Below.refl _ _).alloc (Nat.le_refl _) _⟩
  · have k : okA h p q = false := by unfold okA; simp; omega
    rw [k]
    go_enter Tryd.func13, Tryd.ntmps13
    go_wp2_with (go_at_call 18; refine (in_no _ _ _ _ (by omega)).mono ?_; rintro e w1 ⟨rfl, rfl⟩)
    go_ret
    exact ⟨rfl, (Below.refl _ _).alloc (Nat.le_refl _) _⟩

set_option maxRecDepth 100000 in
theorem is_spec (h p q : Int) (w : World) :
    Calls Tryd.prog 8 #[(Value.agg #[Value.int IntKind.i64 (h), Value.int IntKind.i64 (p), Value.int IntKind.i64 (q)])] w fun e w' => e = .returned (.bool (okA h p q)) ∧ Below w.heap.size w w' := by
  by_cases h0 : 1 ≤ h ∧ h ≤ 9
  · by_cases p0 : 0 ≤ p ∧ p ≤ 99
    · by_cases q0 : 0 ≤ q ∧ q ≤ 99
      · have k : okA h p q = true := by unfold okA; simp; omega
        rw [k]
        go_enter Tryd.func8, Tryd.ntmps8
        go_wp2_with (go_at_call 16; refine (l1_yes _ _ _ _ (by omega) (by omega)).mono ?_; rintro e w1 ⟨rfl, rfl⟩)
        go_ret
        exact ⟨rfl, (Below.refl _ _).alloc (Nat.le_refl _) _⟩
      · have k : okA h p q = false := by unfold okA; simp; omega
        rw [k]
        go_enter Tryd.func8, Tryd.ntmps8
        go_wp2_with (go_at_call 16; first | (refine (l1_yes _ _ _ _ (by omega) (by omega)).mono ?_; rintro e w1 ⟨rfl, rfl⟩) | (refine (l1_no _ _ _ _ (by omega)).mono ?_; rintro e w1 ⟨rfl, rfl⟩))
        go_ret
        exact ⟨rfl, (Below.refl _ _).alloc (Nat.le_refl _) _⟩
    · have k : okA h p q = false := by unfold okA; simp; omega
      rw [k]
      go_enter Tryd.func8, Tryd.ntmps8
      go_wp2_with (go_at_call 16; first | (refine (l1_yes _ _ _ _ (by omega) (by omega)).mono ?_; rintro e w1 ⟨rfl, rfl⟩) | (refine (l1_no _ _ _ _ (by omega)).mono ?_; rintro e w1 ⟨rfl, rfl⟩))
      go_ret
      exact ⟨rfl, (Below.refl _ _).alloc (Nat.le_refl _) _⟩
  · have k : okA h p q = false := by unfold okA; simp; omega
    rw [k]
    go_enter Tryd.func8, Tryd.ntmps8
    go_wp2_with (go_at_call 16; refine (l1_no _ _ _ _ (by omega)).mono ?_; rintro e w1 ⟨rfl, rfl⟩)
    go_ret
    exact ⟨rfl, (Below.refl _ _).alloc (Nat.le_refl _) _⟩

end Go.Proofs.YtpemjlmopnndbaaDoor.Adr
