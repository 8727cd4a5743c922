/-
  CheckPath of the program: the way up from a digest, along the numbers of a path.
  Conditions: the path lies in memory, at most 2^40 numbers.
-/
import Derived.Test.YtggfpjcfjcoaiaaDepth
namespace Go.Proofs.Ytggfpjcfjcoaiaa.Tre
open Go Go.RowKit Go.Proofs.Ytggfpjcfjcoaiaa.Mem Go.Proofs.Ytggfpjcfjcoaiaa.Hsh
set_option linter.unusedVariables false

/-- Whether a path leads from a digest to a root. -/
def okPath (rt n i d : Int) (ps : List Int) : Bool := decide (depthOf n i = ps.length ∧ climbed n.toNat i.toNat d (fun j => ps.getD j 0) = rt)
theorem okPath_no {rt n i d : Int} {ps : List Int} (h : depthOf n i ≠ ps.length) : okPath rt n i d ps = false := by unfold okPath; simp [h]
theorem okPath_at {rt n i d : Int} {ps : List Int} (h : depthOf n i = ps.length) : okPath rt n i d ps = (climbed n.toNat i.toNat d (fun j => ps.getD j 0) == rt) := by unfold okPath; simp [h]; rfl
theorem depthOf_some {n i : Int} (h : 0 ≤ depthOf n i) : ∃ N I : Nat, n = N ∧ i = I ∧ I < N ∧ N ≤ 1000 ∧ depthOf n i = dep N I := by
  by_cases h0 : 0 ≤ i ∧ i < n ∧ n ≤ 1000
  · exact ⟨n.toNat, i.toNat, by omega, by omega, by omega, by omega, depthOf_in h0.1 h0.2.1 h0.2.2⟩
  · rw [depthOf_out (by omega)] at h; omega

/-- What CheckPath's function has: how far it is in the path, and the path. -/
structure Counts (A B : Nat) (a : Option Addr) (m c lo hi : Nat) (ps : List Int) (D : Nat → Prop) (w : World) (x : Int) : Prop where
  dirty : ∀ i, D i ↔ i = A
  place : w.heap[A]? = some (.cells #[.int .i64 x] 3 (0, 0))
  box : w.heap[B]? = some (.cells #[.slice a m c] 24 (0, 0))
  row : Row .i64 lo hi w a m ps
theorem Counts.below {A B m c lo hi : Nat} {a : Option Addr} {ps : List Int} {D : Nat → Prop} {w w' : World} {x : Int} (h : Counts A B a m c lo hi ps D w x) (hb : Below w.heap.size w w') : Counts A B a m c lo hi ps D w' x :=
  ⟨h.dirty, by rw [hb.block _ (Array.getElem?_eq_some_iff.1 h.place).1]; exact h.place, by rw [hb.block _ (Array.getElem?_eq_some_iff.1 h.box).1]; exact h.box, h.row.below hb⟩
theorem Counts.next {A B m c lo hi : Nat} {a : Option Addr} {ps : List Int} {D : Nat → Prop} {w : World} {x : Int} (h : Counts A B a m c lo hi ps D w x) (hB : B ≠ A) (hh : hi ≤ A) (y : Int) : Counts A B a m c lo hi ps D (w.setCell ⟨A, 0, none⟩ (.int .i64 y)) y := by
  refine ⟨h.dirty, ?_, ?_, h.row.keep fun i _ _ h2 => heap_setCell_other _ _ _ _ (by simp; omega)⟩
  · have := heap_setCell_same w A 0 _ _ (.int .i64 y) h.place
    simpa using this
  · rw [heap_setCell_other _ _ _ _ (by simp; omega)]; exact h.box

theorem wf_getD {ps : List Int} (h : ∀ z ∈ ps, (Lit.int .i64 z).wf = true) (j : Nat) : (Lit.int .i64 (ps.getD j 0)).wf = true := by
  rw [List.getD_eq_getElem?_getD]
  cases e : ps[j]? with
  | none => exact WalkArith.wf_i64 (by simp)
  | some z => exact h z (List.mem_of_getElem? e)

set_option maxHeartbeats 1000000 in
set_option maxRecDepth 100000 in
theorem checkOther (A B : Nat) (a : Option Addr) (m c lo hi n I : Nat) (ps : List Int) (hd : dep n I = m) (hn : n ≤ 1000) (hBA : B ≠ A) (hh : hi ≤ A) (wz : ∀ z ∈ ps, (Lit.int .i64 z).wf = true) :
    Beside Try.prog 34 #[.pointer (some ⟨A, 0, none⟩), .pointer (some ⟨B, 0, none⟩)] (steps 0 n I) (fun j => ps.getD j 0) (fun j D w => ∃ x, Counts A B a m c lo hi ps D w x ∧ x + 1 = (j : Int)) := by
  refine ⟨enters_of Try.func34 (by kernel_rfl) rfl, wf_getD wz, ?_, fun j D w w' h hb => by obtain ⟨x, h, hx⟩ := h; exact ⟨x, h.below hb, hx⟩, fun j D w h i hi => by obtain ⟨x, h, hx⟩ := h; rw [(h.dirty i).1 hi]; exact (Array.getElem?_eq_some_iff.1 h.place).1⟩
  rintro j _ _ _ _ D w hs rfl rfl ⟨x, hC, hx⟩
  have hj : j < m := by
    have := (List.getElem?_eq_some_iff.1 hs).1
    rw [steps_length] at this
    omega
  have hm : m ≤ 1000 := by have := dep_at n I; omega
  have hF := hC.next hBA hh (x + 1)
  obtain ⟨b, off, rfl, _, _, hcell⟩ := hF.row.cell hj
  have c0 : w.cell? ⟨A, 0, none⟩ = some (.int .i64 x) := by simp [World.cell?, hC.place]
  have f0 := frozen_of_row w A 0 _ _ hC.place
  have c1 : (w.setCell ⟨A, 0, none⟩ (.int .i64 (x + 1))).cell? ⟨B, 0, none⟩ = some (.slice (some ⟨b, off, none⟩) m c) := by rw [World.cell?, hF.box]; rfl
  have c2 : (w.setCell ⟨A, 0, none⟩ (.int .i64 (x + 1))).cell? ⟨A, 0, none⟩ = some (.int .i64 (x + 1)) := by rw [World.cell?, hF.place]; rfl
  have hSp : Spared D w (w.setCell ⟨A, 0, none⟩ (.int .i64 (x + 1))) := ⟨rfl, rfl, rfl, by simp, fun k _ hk => heap_setCell_other _ _ _ _ (fun e => hk ((hC.dirty k).2 e))⟩
  obtain ⟨d, hdd⟩ : ∃ d, Hid (ps.getD j 0 = d) := ⟨_, rfl⟩
  rw [hdd.out] at hcell ⊢
  have hjj : j = (x + 1).toNat := by omega
  have hF2 : ∃ y, Counts A B (some ⟨b, off, none⟩) m c lo hi ps D (w.setCell ⟨A, 0, none⟩ (.int .i64 (x + 1))) y ∧ y + 1 = ((j + 1 : Nat) : Int) := ⟨x + 1, hF, by omega⟩
  have HF := Lib.hid hF2
  rw [hjj] at hcell
  have hx0 : -1 ≤ x := by omega
  have hx1 : x + 1 < m := by omega
  clear hF hF2 hs hjj hC hx
  show Calls _ _ #[_, _, _, _] _ _
  go_enter Try.func34, Try.ntmps34
  go_wp2
  go_ret
  exact ⟨rfl, D, HF.out, hSp, fun i hi => .inl hi⟩

set_option maxHeartbeats 1000000 in
set_option maxRecDepth 100000 in
theorem check_no (lo hi m c : Nat) (rt n i d : Int) (w : World) (a : Option Addr) (ps : List Int) (hr : Row .i64 lo hi w a m ps) (hm : m ≤ 1099511627776) (h : depthOf n i ≠ m) :
    Calls Try.prog 13 #[.int .i64 rt, .int .i64 n, .int .i64 i, .int .i64 d, .slice a m c] w fun e w' => e = .returned (.bool false) ∧ Below w.heap.size w w' := by
  have hB : Below w.heap.size w (w.alloc (.cells #[.slice a m c] 24)) := by repeat' (first | exact Below.refl _ _ | assumption | refine Below.setCell ?_ ?_ _ | refine Below.alloc ?_ ?_ _ | refine Adr.below_drewN ?_ _ | refine Below.drew ?_ | exact Nat.le_refl _ | omega | (dsimp only; omega) | refine Adr.le_alloc ?_ | refine Adr.le_set ?_ | refine Adr.le_drewN ?_ | refine Adr.le_drew ?_)
  have hbx := heap_alloc_new w (.cells #[.slice a m c] 24)
  have c0 : (w.alloc (.cells #[.slice a m c] 24)).cell? ⟨w.heap.size, 0, none⟩ = some (.slice a m c) := by rw [World.cell?, hbx]; rfl
  obtain ⟨q, hq⟩ : ∃ q, Hid (depthOf n i = q) := ⟨_, rfl⟩
  have hD := fun W => depth_impl n i W
  rw [hq.out] at hD h
  have e1 : ((m : Int) == q) = false := by simp; omega
  clear hr h
  go_enter Try.func13, Try.ntmps13
  go_wp2_with fail
  go_region_held3 (fun w' => w'.cell? ⟨w.heap.size, 0, none⟩ = some (.slice a m c))
    (first | exact sx | exact c0 | assumption | go_keep)
    (first | (go_at_call 12; refine (hD _).mono ?_; rintro e w9 ⟨rfl, hb9⟩; have sx : w9.cell? ⟨w.heap.size, 0, none⟩ = some (.slice a m c) := (cell_of_heap (hb9.block _ (cell_lt c0))).trans c0))
  all_goals
    go_wp2
    go_ret
    exact ⟨rfl, hB.drew.trans (hb9.mono hB.drew.size)⟩

set_option maxHeartbeats 1000000 in
set_option maxRecDepth 100000 in
theorem check_at (lo hi m c n I : Nat) (rt d : Int) (w : World) (a : Option Addr) (ps : List Int) (hr : Row .i64 lo hi w a m ps) (hh : hi ≤ w.heap.size) (hI : I < n) (hn : n ≤ 1000) (h : dep n I = m) (wd : (Lit.int .i64 d).wf = true) :
    Calls Try.prog 13 #[.int .i64 rt, .int .i64 n, .int .i64 I, .int .i64 d, .slice a m c] w fun e w' => e = .returned (.bool (climbed n I d (fun j => ps.getD j 0) == rt)) ∧ Below w.heap.size w w' := by
  have hmf : ∀ (fn : Fn) (first cap : Array Value) (w : World), (Instr.makeFunc fn first cap).run Try.prog w = .ok (.func fn first cap) w := fun _ _ _ _ => rfl
  have hB : Below w.heap.size w (w.alloc (.cells #[.slice a m c] 24)) := by repeat' (first | exact Below.refl _ _ | assumption | refine Below.setCell ?_ ?_ _ | refine Below.alloc ?_ ?_ _ | refine Adr.below_drewN ?_ _ | refine Below.drew ?_ | exact Nat.le_refl _ | omega | (dsimp only; omega) | refine Adr.le_alloc ?_ | refine Adr.le_set ?_ | refine Adr.le_drewN ?_ | refine Adr.le_drew ?_)
  have hbx := heap_alloc_new w (.cells #[.slice a m c] 24)
  have hlt := (Array.getElem?_eq_some_iff.1 hbx).1
  have c0 : (w.alloc (.cells #[.slice a m c] 24)).cell? ⟨w.heap.size, 0, none⟩ = some (.slice a m c) := by rw [World.cell?, hbx]; rfl
  have hD := fun W => depth_in n I W hI hn
  rw [h] at hD
  have hall : ∀ w9, Below (w.alloc (.cells #[.slice a m c] 24)).heap.size (w.alloc (.cells #[.slice a m c] 24)) w9 →
      Calls Try.prog 30 #[.int .i64 n, .int .i64 I, .int .i64 d, .func (.func 34) #[] #[.pointer (some ⟨w9.heap.size, 0, none⟩), .pointer (some ⟨w.heap.size, 0, none⟩)]] (w9.alloc (.cells #[.int .i64 (-1)] 3)) fun e w' =>
        e = .returned (.int .i64 (climbed n I d (fun j => ps.getD j 0))) ∧ Below w.heap.size w w' := by
    intro w9 hb9
    have hbb := hB.trans (hb9.mono hB.size)
    have hs9 := hb9.size
    have hC : Counts w9.heap.size w.heap.size a m c lo hi ps (fun i => i = w9.heap.size) (w9.alloc (.cells #[.int .i64 (-1)] 3)) (-1) := by
      refine ⟨fun _ => Iff.rfl, heap_alloc_new w9 _, ?_, (hr.below hbb).below ((Below.refl _ _).alloc (Nat.le_refl _) _)⟩
      rw [Below.heap_alloc _ _ _ (by omega), hb9.block _ hlt]; exact hbx
    have hcl := climb_any 34 #[.pointer (some ⟨w9.heap.size, 0, none⟩), .pointer (some ⟨w.heap.size, 0, none⟩)] n I _ _ (checkOther w9.heap.size w.heap.size a m c lo hi n I ps h hn (by omega) (by omega) hr.wf) d I wd _ (w9.alloc (.cells #[.int .i64 (-1)] 3)) (by omega) (by omega) (by omega) rfl ⟨-1, hC, by omega⟩
    refine hcl.mono ?_
    rintro e w' ⟨he, D', _, hp, _⟩
    exact ⟨he, (hbb.alloc hbb.size _).trans (hp.below (B := w.heap.size) (by simp; omega) (fun i hi => by subst hi; omega))⟩
  have d1 : ((m : Int) == (m : Int)) = true := by simp
  obtain ⟨r, hrr⟩ : ∃ r, Hid (climbed n I d (fun j => ps.getD j 0) = r) := ⟨_, rfl⟩
  rw [hrr.out] at hall ⊢
  clear hr hbx
  go_enter Try.func13, Try.ntmps13
  go_wp2_with fail
  go_region_held3 (fun w' => w'.cell? ⟨w.heap.size, 0, none⟩ = some (.slice a m c))
    (first | exact sx | exact c0 | assumption | go_keep)
    (first | (go_at_call 12; refine (hD _).mono ?_; rintro e w9 ⟨rfl, hb9⟩; have sx : w9.cell? ⟨w.heap.size, 0, none⟩ = some (.slice a m c) := (cell_of_heap (hb9.block _ (cell_lt c0))).trans c0; have hc9 := hall w9 (((Below.refl _ _).drew).trans hb9)))
  all_goals
    clear hall hD
    go_wp2_with fail
    go_at_call 30
    refine hc9.mono ?_
    rintro e w8 ⟨rfl, hb8⟩
    go_wp2
    go_ret
    exact ⟨rfl, hb8⟩

theorem check_impl (lo hi m c : Nat) (rt n i d : Int) (w : World) (a : Option Addr) (ps : List Int) (hr : Row .i64 lo hi w a m ps) (hh : hi ≤ w.heap.size) (hm : m ≤ 1099511627776) (wd : (Lit.int .i64 d).wf = true) :
    Calls Try.prog 13 #[.int .i64 rt, .int .i64 n, .int .i64 i, .int .i64 d, .slice a m c] w fun e w' => e = .returned (.bool (okPath rt n i d ps)) ∧ Below w.heap.size w w' := by
  have hl := hr.len
  by_cases h : depthOf n i = m
  · rw [okPath_at (by rw [hl]; exact h)]
    obtain ⟨N, I, rfl, rfl, hI, hN, hd⟩ := depthOf_some (n := n) (i := i) (by omega)
    exact check_at lo hi m c N I rt d w a ps hr hh hI hN (by omega) wd
  · rw [okPath_no (by rw [hl]; exact h)]
    exact check_no lo hi m c rt n i d w a ps hr hm h
end Go.Proofs.Ytggfpjcfjcoaiaa.Tre
