/-
  RootOf of the program: the root of a row of digests.
  Conditions: the row lies in memory, at most 10^12 digests.
-/
import Derived.Test.YtggfpjcfjcoaiaaClimb
import Derived.Deep.RegionHeld3
import Derived.Shelf.Abstract
namespace Go.Proofs.Ytggfpjcfjcoaiaa.Tre
open Go Go.RowKit Go.Proofs.Ytggfpjcfjcoaiaa.Mem Go.Proofs.Ytggfpjcfjcoaiaa.Hsh
set_option linter.unusedVariables false

theorem row_part {k : IntKind} {lo hi n b off x y : Nat} {w : World} {zs : List Int} (h : Row k lo hi w (some ⟨b, off, none⟩) n zs) (hx : x ≤ y) (hy : y ≤ n) :
    Row k lo hi w (some ⟨b, off + x, none⟩) (y - x) (part zs x y) := by
  have hl := h.len
  refine ⟨by rw [part_len hx (by omega)], fun z hz => h.wf z (List.mem_of_mem_drop (List.mem_of_mem_take hz)), fun hn => ?_⟩
  obtain ⟨b', off', he, h1, h2, hc⟩ := h.here (by omega)
  injection he with he
  injection he with e1 e2 _
  subst e1 e2
  refine ⟨b, off + x, rfl, h1, h2, fun j hj => ?_⟩
  rw [part_getD (by omega), Nat.add_assoc]
  exact hc (x + j) (by omega)

/-- What the other halves' function of RootOf has: a variable that holds the row. -/
def Held (B b off n c lo hi : Nat) (zs : List Int) (w : World) : Prop :=
  w.heap[B]? = some (.cells #[.slice (some ⟨b, off, none⟩) n c] 24 (0, 0)) ∧ Row .i64 lo hi w (some ⟨b, off, none⟩) n zs
theorem Held.below {B b off n c lo hi : Nat} {zs : List Int} {w w' : World} (h : Held B b off n c lo hi zs w) (hb : Below w.heap.size w w') : Held B b off n c lo hi zs w' :=
  ⟨by rw [hb.block _ (Array.getElem?_eq_some_iff.1 h.1).1]; exact h.1, h.2.below hb⟩

theorem Held.at {B b off n c lo hi I : Nat} {d : Int} {zs : List Int} {w : World} (h : Held B b off n c lo hi zs w) (hI : I < n) (hd : Hid (zs.getD I 0 = d)) :
    w.cell? ⟨B, 0, none⟩ = some (.slice (some ⟨b, off, none⟩) n c) ∧ w.cell? ⟨b, off + I, none⟩ = some (.int .i64 d) := by
  refine ⟨by simp [World.cell?, h.1], ?_⟩
  obtain ⟨b', off', he, _, _, hcell⟩ := h.2.here (by omega)
  injection he with he
  injection he with e1 e2 _
  subst e1 e2
  rw [hcell I hI, hd.out]

/-- RootOf at every row shorter than m. -/
def RootsTo (m : Nat) : Prop := ∀ (lo hi n c : Nat) (w : World) (a : Option Addr) (zs : List Int), n < m → Row .i64 lo hi w a n zs → n ≤ c → c ≤ maxLen → n ≤ 1000000000000 →
  Calls Try.prog 11 #[.slice a n c] w fun e w' => e = .returned (.int .i64 (root zs)) ∧ Below w.heap.size w w'

theorem path_at {zs : List Int} {I j a b : Nat} (h : (steps 0 zs.length I)[j]? = some (a, b)) : (pathOf zs I).getD j 0 = root (part zs a b) ∧ a < b ∧ b ≤ zs.length ∧ b - a < zs.length := by
  have h1 := steps_in zs.length 0 zs.length I (Nat.le_refl _) (a, b) (List.mem_of_getElem? h)
  dsimp only at h1
  refine ⟨?_, by omega, by omega, by omega⟩
  rw [pathOf, List.getD_eq_getElem?_getD, List.getElem?_map, h]; rfl
theorem path_wf {zs : List Int} (h : ∀ z ∈ zs, (Lit.int .i64 z).wf = true) (I j : Nat) : (Lit.int .i64 ((pathOf zs I).getD j 0)).wf = true := by
  rw [List.getD_eq_getElem?_getD, pathOf, List.getElem?_map]
  cases (steps 0 zs.length I)[j]? with
  | none => exact WalkArith.wf_i64 (by simp)
  | some s => exact root_wf (fun z hz => h z (List.mem_of_mem_drop (List.mem_of_mem_take hz)))

set_option maxHeartbeats 1000000 in
set_option maxRecDepth 100000 in
theorem rootOther (B b off n c lo hi I : Nat) (zs : List Int) (hl : zs.length = n) (hc : n ≤ c) (hm : c ≤ maxLen) (hn : n ≤ 1000000000000) (wz : ∀ z ∈ zs, (Lit.int .i64 z).wf = true) (R : RootsTo n) :
    Beside Try.prog 32 #[.pointer (some ⟨B, 0, none⟩)] (steps 0 n I) (fun j => (pathOf zs I).getD j 0) (fun _ D w => (∀ i, ¬ D i) ∧ Held B b off n c lo hi zs w) := by
  refine ⟨enters_of Try.func32 (by kernel_rfl) rfl, path_wf wz I, ?_, fun j D w w' h hb => ⟨h.1, h.2.below hb⟩, fun j D w h i hi => absurd hi (h.1 i)⟩
  rintro j x y _ _ D w hs rfl rfl ⟨hD, hH⟩
  obtain ⟨hv, h1, h2, h3⟩ := path_at (by rw [hl]; exact hs)
  rw [hl] at h2 h3
  have c0 : w.cell? ⟨B, 0, none⟩ = some (.slice (some ⟨b, off, none⟩) n c) := by simp [World.cell?, hH.1]
  have hR := R lo hi (y - x) (c - x) w (some ⟨b, off + x, none⟩) (part zs x y) h3 (row_part hH.2 (by omega) h2) (by omega) (by omega) (by omega)
  rw [hv]
  show Calls _ _ #[_, _, _] _ _
  go_enter Try.func32, Try.ntmps32
  go_wp2_with fail
  go_at_call 11
  refine hR.mono ?_
  rintro e w1 ⟨rfl, hb1⟩
  go_wp2
  go_ret
  exact ⟨rfl, D, ⟨hD, hH.below hb1⟩, Spared.of_below hb1, fun i hi => .inl hi⟩

set_option maxHeartbeats 1000000 in
set_option maxRecDepth 100000 in
theorem root_none (w : World) (a : Option Addr) (c : Nat) :
    Calls Try.prog 11 #[.slice a 0 c] w fun e w' => e = .returned (.int .i64 0) ∧ Below w.heap.size w w' := by
  go_enter Try.func11, Try.ntmps11
  go_wp2_with fail
  go_ret
  exact ⟨rfl, by repeat' (first | exact Below.refl _ _ | assumption | refine Below.setCell ?_ ?_ _ | refine Below.alloc ?_ ?_ _ | refine Adr.below_drewN ?_ _ | refine Below.drew ?_ | exact Nat.le_refl _ | omega | (dsimp only; omega) | refine Adr.le_alloc ?_ | refine Adr.le_set ?_ | refine Adr.le_drewN ?_ | refine Adr.le_drew ?_)⟩

set_option maxHeartbeats 1000000 in
set_option maxRecDepth 100000 in
theorem root_some (lo hi n c b off : Nat) (w : World) (zs : List Int) (R : RootsTo n) (hr : Row .i64 lo hi w (some ⟨b, off, none⟩) n zs) (h0 : 0 < n) (hc : n ≤ c) (hm : c ≤ maxLen) (hn : n ≤ 1000000000000) :
    Calls Try.prog 11 #[.slice (some ⟨b, off, none⟩) n c] w fun e w' => e = .returned (.int .i64 (root zs)) ∧ Below w.heap.size w w' := by
  have hmf : ∀ (fn : Fn) (first cap : Array Value) (w : World), (Instr.makeFunc fn first cap).run Try.prog w = .ok (.func fn first cap) w := fun _ _ _ _ => rfl
  have hl := hr.len
  have hB : Below w.heap.size w (w.alloc (.cells #[.slice (some ⟨b, off, none⟩) n c] 24)) := by repeat' (first | exact Below.refl _ _ | assumption | refine Below.setCell ?_ ?_ _ | refine Below.alloc ?_ ?_ _ | refine Adr.below_drewN ?_ _ | refine Below.drew ?_ | exact Nat.le_refl _ | omega | (dsimp only; omega) | refine Adr.le_alloc ?_ | refine Adr.le_set ?_ | refine Adr.le_drewN ?_ | refine Adr.le_drew ?_)
  have hr1 := hr.below hB
  have wd := hr.wf_at h0
  have hH : Held w.heap.size b off n c lo hi zs ((w.alloc (.cells #[.slice (some ⟨b, off, none⟩) n c] 24)).drew) := ⟨heap_alloc_new w _, hr.below hB.drew⟩
  have hcl := climb_any 32 #[.pointer (some ⟨w.heap.size, 0, none⟩)] n 0 _ _ (rootOther w.heap.size b off n c lo hi 0 zs hl hc hm hn hr.wf R) (zs.getD 0 0) 0 wd (fun _ => False) ((w.alloc (.cells #[.slice (some ⟨b, off, none⟩) n c] 24)).drew) h0 hn (by omega) rfl ⟨fun _ h => h, hH⟩
  have hw := climbed_whole zs 0 (fun j => (pathOf zs 0).getD j 0) (by omega) (fun _ _ => rfl)
  rw [hl] at hw
  rw [hw] at hcl
  clear hw
  have hn0 : ((n : Int) == 0) = false := by simp; omega
  obtain ⟨d, hd⟩ : ∃ d, Hid (zs.getD 0 0 = d) := ⟨_, rfl⟩
  obtain ⟨r, hrt⟩ : ∃ r, Hid (root zs = r) := ⟨_, rfl⟩
  have hS0 := hH.at h0 hd
  rw [hd.out] at hcl
  rw [hrt.out] at hcl ⊢
  obtain ⟨c0, c1⟩ := hS0
  rw [Nat.add_zero] at c1
  clear hr hr1 wd R hH
  go_enter Try.func11, Try.ntmps11
  go_wp2_with fail
  go_region_held3 (fun w' => w'.cell? ⟨w.heap.size, 0, none⟩ = some (.slice (some ⟨b, off, none⟩) n c) ∧ w'.cell? ⟨b, off, none⟩ = some (.int .i64 d))
    (first | exact sx | exact ⟨c0, c1⟩ | assumption | go_keep)
    (first | (go_at_call 30; refine hcl.mono ?_; rintro e w9 ⟨rfl, D9, hS9, hp9, hD9⟩; have sx := hS9.2.at h0 hd))
  all_goals
    go_wp2
    go_ret
    exact ⟨rfl, (hB.drew).trans (Below.mono (hp9.below (Nat.le_refl _) (fun i h => absurd h id)) hB.drew.size)⟩

theorem roots (m : Nat) : RootsTo m := by
  induction m with
  | zero => intro lo hi n c w a zs h; omega
  | succ m ih =>
    intro lo hi n c w a zs h hr hc hm hn
    rcases Nat.eq_zero_or_pos n with h0 | h0
    · subst h0
      obtain rfl := List.eq_nil_of_length_eq_zero hr.len
      rw [root_small (by simp)]
      exact root_none w a c
    · obtain ⟨b, off, rfl, _⟩ := hr.here h0
      exact root_some lo hi n c b off w zs (fun lo hi n' c w a zs h' => ih lo hi n' c w a zs (by omega)) hr h0 hc hm hn
theorem root_impl (lo hi n c : Nat) (w : World) (a : Option Addr) (zs : List Int) (hr : Row .i64 lo hi w a n zs) (hc : n ≤ c) (hm : c ≤ maxLen) (hn : n ≤ 1000000000000) :
    Calls Try.prog 11 #[.slice a n c] w fun e w' => e = .returned (.int .i64 (root zs)) ∧ Below w.heap.size w w' :=
  roots (n + 1) lo hi n c w a zs (Nat.lt_succ_self _) hr hc hm hn
end Go.Proofs.Ytggfpjcfjcoaiaa.Tre
