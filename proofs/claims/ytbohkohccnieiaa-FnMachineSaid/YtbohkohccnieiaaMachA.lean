/-
  The machine, the program: the machine in arrays after a step.
  Conditions: the state and the step are valid.
-/
import Derived.Test.YtbohkohccnieiaaMachO
import Derived.Test.YtbohkohccnieiaaMachW
import Derived.Test.YtbohkohccnieiaaMinMax
import Derived.Deep.CutBlock
import Derived.Deep.DeepCutAuto
import Derived.Deep.RegionHeld3
namespace Go.Proofs.Ytbohkohccnieiaa.Mach
set_option linter.unusedVariables false
open Go Go.RowKit Go.Proofs.Ytbohkohccnieiaa.Mem Go.Proofs.Ytbohkohccnieiaa.Gen Go.Proofs.Ytbohkohccnieiaa.Scripts


set_option maxRecDepth 100000 in
theorem mod100 (a : Int) (w : World) (ha : 0 ≤ a) :
    Calls Try.prog 75 #[.int .i64 a, .int .i64 100] w fun e w' => e = .returned (.int .i64 (a % 100)) ∧ w = w' := by
  have h1 := Int.emod_nonneg a (show (100 : Int) ≠ 0 by omega)
  have h2 := Int.emod_lt_of_pos a (show (0 : Int) < 100 by omega)
  obtain ⟨r, hr⟩ : ∃ r, a % 100 = r := ⟨_, rfl⟩
  have ht : a.tmod 100 = r := by rw [Int.tmod_eq_emod_of_nonneg ha]; exact hr
  rw [hr] at h1 h2 ⊢
  have hd : decide (r < 0) = false := by simpa using h1
  have hI := fun W => Range.in_yes 100 1 1000000000000 W (by omega) (by omega)
  clear hr
  go_enter Try.func75, Try.ntmps75
  go_wp2_with (go_at_call 49; refine (hI _).mono ?_; rintro e w1 ⟨rfl, rfl⟩)
  go_ret
  exact ⟨rfl, rfl⟩

set_option maxRecDepth 100000 in
theorem mod1000 (a : Int) (w : World) (ha : 0 ≤ a) :
    Calls Try.prog 75 #[.int .i64 a, .int .i64 1000] w fun e w' => e = .returned (.int .i64 (a % 1000)) ∧ w = w' := by
  have h1 := Int.emod_nonneg a (show (1000 : Int) ≠ 0 by omega)
  have h2 := Int.emod_lt_of_pos a (show (0 : Int) < 1000 by omega)
  obtain ⟨r, hr⟩ : ∃ r, a % 1000 = r := ⟨_, rfl⟩
  have ht : a.tmod 1000 = r := by rw [Int.tmod_eq_emod_of_nonneg ha]; exact hr
  rw [hr] at h1 h2 ⊢
  have hd : decide (r < 0) = false := by simpa using h1
  have hI := fun W => Range.in_yes 1000 1 1000000000000 W (by omega) (by omega)
  clear hr
  go_enter Try.func75, Try.ntmps75
  go_wp2_with (go_at_call 49; refine (hI _).mono ?_; rintro e w1 ⟨rfl, rfl⟩)
  go_ret
  exact ⟨rfl, rfl⟩

/-- The cells of a machine. -/
def mc (p : Int) (f g h : List Int) : List Value := .int .i64 p :: (f.map (Value.int .i64) ++ (g.map (Value.int .i64) ++ h.map (Value.int .i64)))
theorem mc_pc (p q : Int) (f g h : List Int) : (mc p f g h).set 0 (.int .i64 q) = mc q f g h := rfl
theorem map_at {f : List Int} {a : Nat} (ha : a < f.length) : (f.map (Value.int .i64))[a]? = some (.int .i64 (f.getD a 0)) := by
  rw [List.getElem?_map, List.getD_eq_getElem?_getD, List.getElem?_eq_getElem ha]; rfl
theorem mc_at1 {p : Int} {f g h : List Int} {a : Nat} (hf : f.length = 4) (ha : a < 4) : (mc p f g h)[1 + a]? = some (.int .i64 (f.getD a 0)) := by
  unfold mc
  rw [Nat.add_comm 1 a, List.getElem?_cons_succ, List.getElem?_append_left (by rw [List.length_map]; omega)]
  exact map_at (by omega)
theorem mc_at2 {p : Int} {f g h : List Int} {a : Nat} (hf : f.length = 4) (hg : g.length = 3) (ha : a < 3) : (mc p f g h)[5 + a]? = some (.int .i64 (g.getD a 0)) := by
  unfold mc
  rw [show 5 + a = (4 + a) + 1 by omega, List.getElem?_cons_succ, List.getElem?_append_right (by rw [List.length_map]; omega), List.length_map, hf, List.getElem?_append_left (by rw [List.length_map]; omega), show 4 + a - 4 = a by omega]
  exact map_at (by omega)
theorem mc_at3 {p : Int} {f g h : List Int} {a : Nat} (hf : f.length = 4) (hg : g.length = 3) (hh : h.length = 4) (ha : a < 4) : (mc p f g h)[8 + a]? = some (.int .i64 (h.getD a 0)) := by
  unfold mc
  rw [show 8 + a = (7 + a) + 1 by omega, List.getElem?_cons_succ, List.getElem?_append_right (by rw [List.length_map]; omega), List.length_map, hf, List.getElem?_append_right (by rw [List.length_map]; omega), List.length_map, hg, show 7 + a - 4 - 3 = a by omega]
  exact map_at (by omega)
theorem mc_set1 {p : Int} {f g h : List Int} {a : Nat} (hf : f.length = 4) (ha : a < 4) (v : Int) : (mc p f g h).set (1 + a) (.int .i64 v) = mc p (f.set a v) g h := by
  unfold mc
  rw [Nat.add_comm 1 a, List.set_cons_succ, List.set_append_left _ _ (by rw [List.length_map]; omega), List.map_set]
theorem mc_set2 {p : Int} {f g h : List Int} {a : Nat} (hf : f.length = 4) (hg : g.length = 3) (ha : a < 3) (v : Int) : (mc p f g h).set (5 + a) (.int .i64 v) = mc p f (g.set a v) h := by
  unfold mc
  rw [show 5 + a = (4 + a) + 1 by omega, List.set_cons_succ, List.set_append_right _ _ (by rw [List.length_map]; omega), List.length_map, hf, show 4 + a - 4 = a by omega, List.set_append_left _ _ (by rw [List.length_map]; omega), List.map_set]
theorem mc_set3 {p : Int} {f g h : List Int} {a : Nat} (hf : f.length = 4) (hg : g.length = 3) (ha : a < 4) (v : Int) : (mc p f g h).set (8 + a) (.int .i64 v) = mc p f g (h.set a v) := by
  unfold mc
  rw [show 8 + a = (7 + a) + 1 by omega, List.set_cons_succ, List.set_append_right _ _ (by rw [List.length_map]; omega), List.length_map, hf, List.set_append_right _ _ (by rw [List.length_map]; omega), List.length_map, hg, show 7 + a - 4 - 3 = a by omega, List.map_set]
theorem four {f : List Int} (hf : f.length = 4) : ∃ a b c d, f = [a, b, c, d] := by
  match f, hf with
  | [a, b, c, d], _ => exact ⟨a, b, c, d, rfl⟩
theorem three {f : List Int} (hf : f.length = 3) : ∃ a b c, f = [a, b, c] := by
  match f, hf with
  | [a, b, c], _ => exact ⟨a, b, c, rfl⟩
/-- What the switch leaves. -/
structure Done (o : TOp) (P : TState) (v : Int) (b : Nat) (w V : World) (Q : TState) : Prop where
  eq : stepped o P v = Q
  l1 : Q.f1.length = 4
  l2 : Q.f2.length = 3
  l3 : Q.f3.length = 4
  m : Blk 67 b (mc Q.f0 Q.f1 Q.f2 Q.f3) V
  r : Blk 67 (b + 2) [.int .i64 0, .int .i64 0, .int .i64 0, .int .i64 0, .int .i64 0, .int .i64 0, .int .i64 0, .int .i64 0, .int .i64 0, .int .i64 0, .int .i64 0, .int .i64 0] V
  below : Below b w V

set_option maxHeartbeats 4000000 in
set_option maxRecDepth 100000 in
theorem after_impl (w : World) (p r0 r1 r2 r3 s0 s1 s2 n0 n1 n2 n3 : Int) (o : TOp) (v : Int) (h0 : 0 ≤ p) (hp : p ≤ 1000) (hr : ∀ i, 0 ≤ [r0, r1, r2, r3].getD i 0 ∧ [r0, r1, r2, r3].getD i 0 ≤ 999) (hok : okO o = true) :
    Calls Try.prog 43 #[.agg #[.int .i64 p, .int .i64 r0, .int .i64 r1, .int .i64 r2, .int .i64 r3, .int .i64 s0, .int .i64 s1, .int .i64 s2, .int .i64 n0, .int .i64 n1, .int .i64 n2, .int .i64 n3], .agg #[.int .i64 o.f0, .int .i64 o.f1, .int .i64 o.f2, .int .i64 o.f3], .int .i64 v] w fun e w' => ∃ (q x0 x1 x2 x3 y0 y1 y2 z0 z1 z2 z3 : Int), stepped o ⟨p, [r0, r1, r2, r3], [s0, s1, s2], [n0, n1, n2, n3]⟩ v = ⟨q, [x0, x1, x2, x3], [y0, y1, y2], [z0, z1, z2, z3]⟩ ∧ e = .returned (.agg #[.int .i64 q, .int .i64 x0, .int .i64 x1, .int .i64 x2, .int .i64 x3, .int .i64 y0, .int .i64 y1, .int .i64 y2, .int .i64 z0, .int .i64 z1, .int .i64 z2, .int .i64 z3]) ∧ Below w.heap.size w w' := by
  obtain ⟨W, hWW⟩ : ∃ Z, ((w.alloc (.cells #[.int .i64 p, .int .i64 r0, .int .i64 r1, .int .i64 r2, .int .i64 r3, .int .i64 s0, .int .i64 s1, .int .i64 s2, .int .i64 n0, .int .i64 n1, .int .i64 n2, .int .i64 n3] 67)).alloc (.cells #[.int .i64 o.f0, .int .i64 o.f1, .int .i64 o.f2, .int .i64 o.f3] 71)).alloc (.cells #[.int .i64 0, .int .i64 0, .int .i64 0, .int .i64 0, .int .i64 0, .int .i64 0, .int .i64 0, .int .i64 0, .int .i64 0, .int .i64 0, .int .i64 0, .int .i64 0] 67) = Z := ⟨_, rfl⟩
  have qM : Blk 67 w.heap.size (mc p [r0, r1, r2, r3] [s0, s1, s2] [n0, n1, n2, n3]) W := by rw [← hWW]; exact ((Blk.new _ [.int .i64 p, .int .i64 r0, .int .i64 r1, .int .i64 r2, .int .i64 r3, .int .i64 s0, .int .i64 s1, .int .i64 s2, .int .i64 n0, .int .i64 n1, .int .i64 n2, .int .i64 n3] w).alloc _).alloc _
  have qO : Blk 71 (w.heap.size + 1) [.int .i64 o.f0, .int .i64 o.f1, .int .i64 o.f2, .int .i64 o.f3] W := by
    have := Blk.new 71 [.int .i64 o.f0, .int .i64 o.f1, .int .i64 o.f2, .int .i64 o.f3] (w.alloc (.cells #[.int .i64 p, .int .i64 r0, .int .i64 r1, .int .i64 r2, .int .i64 r3, .int .i64 s0, .int .i64 s1, .int .i64 s2, .int .i64 n0, .int .i64 n1, .int .i64 n2, .int .i64 n3] 67))
    rw [gsize_alloc] at this
    rw [← hWW]; exact this.alloc _
  have qR : Blk 67 (w.heap.size + 2) [.int .i64 0, .int .i64 0, .int .i64 0, .int .i64 0, .int .i64 0, .int .i64 0, .int .i64 0, .int .i64 0, .int .i64 0, .int .i64 0, .int .i64 0, .int .i64 0] W := by
    have := Blk.new 67 [.int .i64 0, .int .i64 0, .int .i64 0, .int .i64 0, .int .i64 0, .int .i64 0, .int .i64 0, .int .i64 0, .int .i64 0, .int .i64 0, .int .i64 0, .int .i64 0] ((w.alloc (.cells #[.int .i64 p, .int .i64 r0, .int .i64 r1, .int .i64 r2, .int .i64 r3, .int .i64 s0, .int .i64 s1, .int .i64 s2, .int .i64 n0, .int .i64 n1, .int .i64 n2, .int .i64 n3] 67)).alloc (.cells #[.int .i64 o.f0, .int .i64 o.f1, .int .i64 o.f2, .int .i64 o.f3] 71))
    rw [gsize_alloc, gsize_alloc] at this
    rw [← hWW]; exact this
  have hB : Below w.heap.size w W := by rw [← hWW]; exact (((Below.refl _ _).alloc (Nat.le_refl _) _).alloc (by rw [gsize_alloc]; omega) _).alloc (by rw [gsize_alloc, gsize_alloc]; omega) _
  have hz : w.heap.size + 3 ≤ W.heap.size := qR.lt
  have x0 : W.cell? ⟨w.heap.size, 0, none⟩ = some (.int .i64 p) := qM.at rfl
  have d0 := qM.free 0
  have hknd := kind_at hok
  obtain ⟨V, hV⟩ : ∃ V, W.setCell ⟨w.heap.size, 0, none⟩ (.int .i64 (p + 1)) = V := ⟨_, rfl⟩
  have qM : Blk 67 w.heap.size (mc (p + 1) [r0, r1, r2, r3] [s0, s1, s2] [n0, n1, n2, n3]) V := by rw [← hV]; exact qM.set 0 _
  have qO : Blk 71 (w.heap.size + 1) [.int .i64 o.f0, .int .i64 o.f1, .int .i64 o.f2, .int .i64 o.f3] V := by rw [← hV]; exact qO.other _ (by dsimp only; omega)
  have qR : Blk 67 (w.heap.size + 2) [.int .i64 0, .int .i64 0, .int .i64 0, .int .i64 0, .int .i64 0, .int .i64 0, .int .i64 0, .int .i64 0, .int .i64 0, .int .i64 0, .int .i64 0, .int .i64 0] V := by rw [← hV]; exact qR.other _ (by dsimp only; omega)
  have hB : Below w.heap.size w V := by rw [← hV]; exact hB.setCell (Nat.le_refl _) _
  have hz : w.heap.size + 3 ≤ V.heap.size := qR.lt
  obtain ⟨f1, hf1⟩ : ∃ f, [r0, r1, r2, r3] = f := ⟨_, rfl⟩
  obtain ⟨f2, hf2⟩ : ∃ f, [s0, s1, s2] = f := ⟨_, rfl⟩
  obtain ⟨f3, hf3⟩ : ∃ f, [n0, n1, n2, n3] = f := ⟨_, rfl⟩
  have L1 : Hid (f1.length = 4) := by rw [← hf1]; exact rfl
  have L2 : Hid (f2.length = 3) := by rw [← hf2]; exact rfl
  have L3 : Hid (f3.length = 4) := by rw [← hf3]; exact rfl
  rw [hf1] at qM hr ⊢
  rw [hf2] at qM ⊢
  rw [hf3] at qM ⊢
  clear hf1 hf2 hf3
  have HW := Lib.hid hWW
  have HV := Lib.hid hV
  have hw1 : wrap64 (p + 1) = p + 1 := IntWalk.wrap64_in _ ⟨by omega, by omega⟩
  have HW1 := Lib.hid hw1
  clear hWW hV hw1
  go_enter Try.func43, Try.ntmps43
  go_upto_region 1 with fail
  rw [HW.out]
  go_upto_region 2 with fail
  try rw [HW1.out]
  rw [HV.out]
  clear x0 d0
  obtain ⟨b, hb⟩ : ∃ b, w.heap.size = b := ⟨_, rfl⟩
  simp only [hb] at qM qO qR hB hz ⊢
  obtain ⟨pc, hpc⟩ : ∃ q, p + 1 = q := ⟨_, rfl⟩
  have hp1 : 1 ≤ pc ∧ pc ≤ 1001 := by omega
  rw [hpc] at qM
  have HPC := Lib.hid hpc
  have hnums := nums_at hok
  obtain ⟨k, hk⟩ : ∃ k, o.f0 = k := ⟨_, rfl⟩
  have HK := Lib.hid hk
  rw [hk] at qO hknd
  simp only [hk] at hnums
  obtain ⟨on1, hon1⟩ : ∃ a : Nat, o.f1 = (a : Int) := ⟨o.f1.toNat, by omega⟩
  have ha4 : on1 < 4 := by omega
  have hai : (on1 : Int) < 4 := by omega
  have HON1 := Lib.hid hon1
  rw [hon1] at qO
  have hb1 := hb
  have HB := Lib.hid hb1
  have hk0 : V.cell? ⟨b + 1, 0, none⟩ = some (.int .i64 k) := qO.at rfl
  try simp only [hk, hon1]
  clear hon1 hk hpc hok hb hb1
  try rw [HPC.out]
  go_upto_block 0 with fail
  go_cut [3] (fun s wx => s = .pointer (some ⟨b, 0, none⟩) ∧ ∃ (V : World) (Q : TState), V = wx ∧ Done o ⟨p, f1, f2, f3⟩ v b w V Q)
  case first =>
    rcases kinds k hknd.1 hknd.2
    · obtain ⟨tv, htv⟩ : ∃ t, taken v = t := ⟨_, rfl⟩
      have htin : 0 ≤ tv ∧ tv ≤ 999 := by rw [← htv]; exact taken_in v
      obtain ⟨mv, hmv⟩ : ∃ m : Int, (if 0 < v then v else 0) = m := ⟨_, rfl⟩
      have hmax := fun W => MinMax.max_impl v 0 mv W (by rw [← hmv]; by_cases h9 : 0 < v <;> simp [h9] <;> omega)
      have hmin := fun W => MinMax.min_impl mv 999 tv W (by rw [← htv, ← hmv]; unfold taken; by_cases h0 : v < 0 <;> by_cases h9 : 999 < v <;> by_cases h8 : 0 < v <;> simp [h0, h9, h8] <;> omega)
      have HTV := Lib.hid htv
      clear htv hmv
      have hE : stepped o ⟨p, f1, f2, f3⟩ v = ⟨pc, f1.set on1 tv, f2, f3⟩ := by simp only [stepped, HK.out, HON1.out, Int.toNat_natCast, HTV.out, ← HPC.out]; simp
      have HE := Lib.hid hE
      clear hE hnums hr
      go_upto_region 7 with fail
      obtain ⟨V4, hV4⟩ : ∃ V4, V.drew = V4 := ⟨_, rfl⟩
      replace qM := qM.drew
      rw [hV4] at qM
      replace qO := qO.drew
      rw [hV4] at qO
      replace qR := qR.drew
      rw [hV4] at qR
      have hB := gbelow_drewN hB 1
      replace hB : Below b w V4 := by rw [← hV4]; exact hB
      have hzb : b + 3 ≤ V4.heap.size := qR.lt
      have s9 : V4.cell? ⟨b + 1, 1, none⟩ = some (.int .i64 (on1 : Int)) := qO.at rfl
      refine wp_region_held_drew (S := (fun w' => w'.cell? ⟨b + 1, 1, none⟩ = some (.int .i64 (on1 : Int)))) (by kernel_rfl) (by rw [hV4]; exact s9) (fun hHeld => ?_)
      rw [hV4]
      clear hV4
      refine wpAnyH_take (i := 0) (v := ?vk10) (List.getElem?_toArray.trans rfl) (by kernel_rfl) (by kernel_rfl) (by kernel_rfl) (fun _ _ _ h => h) (Or.inl ⟨by rfl, ?yk10⟩) (by assumption) ?rk10
      case yk10 => (intro w hSw; (try dsimp only at hSw); go_simp; try with_reducible rfl)
      try simp only [Act.put, List.setIfInBounds_toArray, List.set_cons_zero, List.set_cons_succ]
      refine wpAnyH_take (i := 1) (v := ?vk11) (List.getElem?_toArray.trans rfl) (by kernel_rfl) (by kernel_rfl) (by kernel_rfl) (fun _ _ _ h => h) (Or.inl ⟨by rfl, ?yk11⟩) (by assumption) ?rk11
      case yk11 => (intro w hSw; (try dsimp only at hSw); go_simp; try with_reducible rfl)
      try simp only [Act.put, List.setIfInBounds_toArray, List.set_cons_zero, List.set_cons_succ]
      refine wpAnyH_take (i := 2) (v := ?vk12) (List.getElem?_toArray.trans rfl) (by kernel_rfl) (by kernel_rfl) (by kernel_rfl) (fun _ _ _ h => h) (Or.inl ⟨by rfl, ?yk12⟩) (by assumption) ?rk12
      case yk12 => (intro w hSw; (try dsimp only at hSw); go_simp; try with_reducible rfl)
      try simp only [Act.put, List.setIfInBounds_toArray, List.set_cons_zero, List.set_cons_succ]
      refine wpAnyH_take (i := 5) (v := ?vk15) (List.getElem?_toArray.trans rfl) (by kernel_rfl) (by kernel_rfl) (by kernel_rfl) (fun _ _ _ h => h) (Or.inl ⟨by rfl, ?yk15⟩) (by assumption) ?rk15
      case yk15 => (intro w hSw; (try dsimp only at hSw); go_simp; try with_reducible rfl)
      try simp only [Act.put, List.setIfInBounds_toArray, List.set_cons_zero, List.set_cons_succ]
      refine wpAnyH_ready (rs := [3]) (by kernel_rfl) (by simp) ?_
      refine AllReadyH.cons (List.getElem?_toArray.trans rfl) (fun K hK => ?_) AllReadyH.nil
      go_simp
      go_at_call 74
      refine (hmax _).mono ?_
      rintro e u3 ⟨rfl, hy⟩
      have qM := qM.below hy
      have qO := qO.below hy
      have qR := qR.below hy
      have hB := hB.trans (hy.mono (by omega))
      have hzb := Nat.le_trans hzb hy.size
      clear hy
      have s9 : u3.cell? ⟨b + 1, 1, none⟩ = some (.int .i64 (on1 : Int)) := qO.at rfl
      refine hK.out _ _ s9 (fun hHeld => ?_)
      clear hK K
      try simp only [Act.put, List.setIfInBounds_toArray, List.set_cons_zero, List.set_cons_succ]
      refine wpAnyH_ready (rs := [4]) (by kernel_rfl) (by simp) ?_
      refine AllReadyH.cons (List.getElem?_toArray.trans rfl) (fun K hK => ?_) AllReadyH.nil
      go_simp
      go_at_call 73
      refine (hmin _).mono ?_
      rintro e u4 ⟨rfl, hy⟩
      have qM := qM.below hy
      have qO := qO.below hy
      have qR := qR.below hy
      have hB := hB.trans (hy.mono (by omega))
      have hzb := Nat.le_trans hzb hy.size
      clear hy
      have s9 : u4.cell? ⟨b + 1, 1, none⟩ = some (.int .i64 (on1 : Int)) := qO.at rfl
      refine hK.out _ _ s9 (fun hHeld => ?_)
      clear hK K
      try simp only [Act.put, List.setIfInBounds_toArray, List.set_cons_zero, List.set_cons_succ]
      refine wpAnyH_take (i := 6) (v := ?vk16) (List.getElem?_toArray.trans rfl) (by kernel_rfl) (by kernel_rfl) (by kernel_rfl) (fun _ _ _ h => h) (Or.inl ⟨by rfl, ?yk16⟩) (by assumption) ?rk16
      case yk16 => (intro w hSw; (try dsimp only at hSw); go_simp; try with_reducible rfl)
      try simp only [Act.put, List.setIfInBounds_toArray, List.set_cons_zero, List.set_cons_succ]
      refine wpAnyH_ready (rs := [7]) (by kernel_rfl) (by simp) ?_
      refine AllReadyH.cons (List.getElem?_toArray.trans rfl) (fun K hK => ?_) AllReadyH.nil
      have c0 := qM.at (mc_at1 L1.out ha4)
      have d0 := qM.free (1 + on1)
      have qM5 := qM.set (1 + on1) (.int .i64 tv)
      rw [mc_set1 L1.out ha4] at qM5
      have qO5 := qO.other (a := ⟨b, 1 + on1, none⟩) (.int .i64 tv) (by dsimp only; omega)
      have qR5 := qR.other (a := ⟨b, 1 + on1, none⟩) (.int .i64 tv) (by dsimp only; omega)
      have hB5 := hB.setCell (p := ⟨b, 1 + on1, none⟩) (Nat.le_refl _) (.int .i64 tv)
      obtain ⟨V5, hV5⟩ : ∃ V5, u4.setCell ⟨b, 1 + on1, none⟩ (.int .i64 tv) = V5 := ⟨_, rfl⟩
      rw [hV5] at qM5 qO5 qR5 hB5
      go_simp
      try rw [hV5]
      have s9 : V5.cell? ⟨b + 1, 1, none⟩ = some (.int .i64 (on1 : Int)) := qO5.at rfl
      have D := Lib.hid (Done.mk HE.out (by rw [List.length_set]; exact L1.out) L2.out L3.out qM5 qR5 hB5)
      clear hV5 c0 d0
      refine hK.out _ _ s9 (fun hHeld => ?_)
      clear hK K
      try simp only [Act.put, List.setIfInBounds_toArray, List.set_cons_zero, List.set_cons_succ]
      refine wpAnyH_done (by kernel_rfl) ?_ _
      go_wp2_with fail
      go_meet
      case rel => exact ⟨rfl, _, _, rfl, D.out⟩
    · obtain ⟨tv, htv⟩ : ∃ t, taken v = t := ⟨_, rfl⟩
      have htin : 0 ≤ tv ∧ tv ≤ 999 := by rw [← htv]; exact taken_in v
      obtain ⟨mv, hmv⟩ : ∃ m : Int, (if 0 < v then v else 0) = m := ⟨_, rfl⟩
      have hmax := fun W => MinMax.max_impl v 0 mv W (by rw [← hmv]; by_cases h9 : 0 < v <;> simp [h9] <;> omega)
      have hmin := fun W => MinMax.min_impl mv 999 tv W (by rw [← htv, ← hmv]; unfold taken; by_cases h0 : v < 0 <;> by_cases h9 : 999 < v <;> by_cases h8 : 0 < v <;> simp [h0, h9, h8] <;> omega)
      have HTV := Lib.hid htv
      clear htv hmv
      have hE : stepped o ⟨p, f1, f2, f3⟩ v = ⟨pc, f1.set on1 tv, f2, f3⟩ := by simp only [stepped, HK.out, HON1.out, Int.toNat_natCast, HTV.out, ← HPC.out]; simp
      have HE := Lib.hid hE
      clear hE hnums hr
      go_upto_region 7 with fail
      obtain ⟨V4, hV4⟩ : ∃ V4, V.drew = V4 := ⟨_, rfl⟩
      replace qM := qM.drew
      rw [hV4] at qM
      replace qO := qO.drew
      rw [hV4] at qO
      replace qR := qR.drew
      rw [hV4] at qR
      have hB := gbelow_drewN hB 1
      replace hB : Below b w V4 := by rw [← hV4]; exact hB
      have hzb : b + 3 ≤ V4.heap.size := qR.lt
      have s9 : V4.cell? ⟨b + 1, 1, none⟩ = some (.int .i64 (on1 : Int)) := qO.at rfl
      refine wp_region_held_drew (S := (fun w' => w'.cell? ⟨b + 1, 1, none⟩ = some (.int .i64 (on1 : Int)))) (by kernel_rfl) (by rw [hV4]; exact s9) (fun hHeld => ?_)
      rw [hV4]
      clear hV4
      refine wpAnyH_take (i := 0) (v := ?vk20) (List.getElem?_toArray.trans rfl) (by kernel_rfl) (by kernel_rfl) (by kernel_rfl) (fun _ _ _ h => h) (Or.inl ⟨by rfl, ?yk20⟩) (by assumption) ?rk20
      case yk20 => (intro w hSw; (try dsimp only at hSw); go_simp; try with_reducible rfl)
      try simp only [Act.put, List.setIfInBounds_toArray, List.set_cons_zero, List.set_cons_succ]
      refine wpAnyH_take (i := 1) (v := ?vk21) (List.getElem?_toArray.trans rfl) (by kernel_rfl) (by kernel_rfl) (by kernel_rfl) (fun _ _ _ h => h) (Or.inl ⟨by rfl, ?yk21⟩) (by assumption) ?rk21
      case yk21 => (intro w hSw; (try dsimp only at hSw); go_simp; try with_reducible rfl)
      try simp only [Act.put, List.setIfInBounds_toArray, List.set_cons_zero, List.set_cons_succ]
      refine wpAnyH_take (i := 2) (v := ?vk22) (List.getElem?_toArray.trans rfl) (by kernel_rfl) (by kernel_rfl) (by kernel_rfl) (fun _ _ _ h => h) (Or.inl ⟨by rfl, ?yk22⟩) (by assumption) ?rk22
      case yk22 => (intro w hSw; (try dsimp only at hSw); go_simp; try with_reducible rfl)
      try simp only [Act.put, List.setIfInBounds_toArray, List.set_cons_zero, List.set_cons_succ]
      refine wpAnyH_take (i := 5) (v := ?vk25) (List.getElem?_toArray.trans rfl) (by kernel_rfl) (by kernel_rfl) (by kernel_rfl) (fun _ _ _ h => h) (Or.inl ⟨by rfl, ?yk25⟩) (by assumption) ?rk25
      case yk25 => (intro w hSw; (try dsimp only at hSw); go_simp; try with_reducible rfl)
      try simp only [Act.put, List.setIfInBounds_toArray, List.set_cons_zero, List.set_cons_succ]
      refine wpAnyH_ready (rs := [3]) (by kernel_rfl) (by simp) ?_
      refine AllReadyH.cons (List.getElem?_toArray.trans rfl) (fun K hK => ?_) AllReadyH.nil
      go_simp
      go_at_call 74
      refine (hmax _).mono ?_
      rintro e u3 ⟨rfl, hy⟩
      have qM := qM.below hy
      have qO := qO.below hy
      have qR := qR.below hy
      have hB := hB.trans (hy.mono (by omega))
      have hzb := Nat.le_trans hzb hy.size
      clear hy
      have s9 : u3.cell? ⟨b + 1, 1, none⟩ = some (.int .i64 (on1 : Int)) := qO.at rfl
      refine hK.out _ _ s9 (fun hHeld => ?_)
      clear hK K
      try simp only [Act.put, List.setIfInBounds_toArray, List.set_cons_zero, List.set_cons_succ]
      refine wpAnyH_ready (rs := [4]) (by kernel_rfl) (by simp) ?_
      refine AllReadyH.cons (List.getElem?_toArray.trans rfl) (fun K hK => ?_) AllReadyH.nil
      go_simp
      go_at_call 73
      refine (hmin _).mono ?_
      rintro e u4 ⟨rfl, hy⟩
      have qM := qM.below hy
      have qO := qO.below hy
      have qR := qR.below hy
      have hB := hB.trans (hy.mono (by omega))
      have hzb := Nat.le_trans hzb hy.size
      clear hy
      have s9 : u4.cell? ⟨b + 1, 1, none⟩ = some (.int .i64 (on1 : Int)) := qO.at rfl
      refine hK.out _ _ s9 (fun hHeld => ?_)
      clear hK K
      try simp only [Act.put, List.setIfInBounds_toArray, List.set_cons_zero, List.set_cons_succ]
      refine wpAnyH_take (i := 6) (v := ?vk26) (List.getElem?_toArray.trans rfl) (by kernel_rfl) (by kernel_rfl) (by kernel_rfl) (fun _ _ _ h => h) (Or.inl ⟨by rfl, ?yk26⟩) (by assumption) ?rk26
      case yk26 => (intro w hSw; (try dsimp only at hSw); go_simp; try with_reducible rfl)
      try simp only [Act.put, List.setIfInBounds_toArray, List.set_cons_zero, List.set_cons_succ]
      refine wpAnyH_ready (rs := [7]) (by kernel_rfl) (by simp) ?_
      refine AllReadyH.cons (List.getElem?_toArray.trans rfl) (fun K hK => ?_) AllReadyH.nil
      have c0 := qM.at (mc_at1 L1.out ha4)
      have d0 := qM.free (1 + on1)
      have qM5 := qM.set (1 + on1) (.int .i64 tv)
      rw [mc_set1 L1.out ha4] at qM5
      have qO5 := qO.other (a := ⟨b, 1 + on1, none⟩) (.int .i64 tv) (by dsimp only; omega)
      have qR5 := qR.other (a := ⟨b, 1 + on1, none⟩) (.int .i64 tv) (by dsimp only; omega)
      have hB5 := hB.setCell (p := ⟨b, 1 + on1, none⟩) (Nat.le_refl _) (.int .i64 tv)
      obtain ⟨V5, hV5⟩ : ∃ V5, u4.setCell ⟨b, 1 + on1, none⟩ (.int .i64 tv) = V5 := ⟨_, rfl⟩
      rw [hV5] at qM5 qO5 qR5 hB5
      go_simp
      try rw [hV5]
      have s9 : V5.cell? ⟨b + 1, 1, none⟩ = some (.int .i64 (on1 : Int)) := qO5.at rfl
      have D := Lib.hid (Done.mk HE.out (by rw [List.length_set]; exact L1.out) L2.out L3.out qM5 qR5 hB5)
      clear hV5 c0 d0
      refine hK.out _ _ s9 (fun hHeld => ?_)
      clear hK K
      try simp only [Act.put, List.setIfInBounds_toArray, List.set_cons_zero, List.set_cons_succ]
      refine wpAnyH_done (by kernel_rfl) ?_ _
      go_wp2_with fail
      go_meet
      case rel => exact ⟨rfl, _, _, rfl, D.out⟩
    · obtain ⟨tv, htv⟩ : ∃ t, taken v = t := ⟨_, rfl⟩
      have htin : 0 ≤ tv ∧ tv ≤ 999 := by rw [← htv]; exact taken_in v
      obtain ⟨mv, hmv⟩ : ∃ m : Int, (if 0 < v then v else 0) = m := ⟨_, rfl⟩
      have hmax := fun W => MinMax.max_impl v 0 mv W (by rw [← hmv]; by_cases h9 : 0 < v <;> simp [h9] <;> omega)
      have hmin := fun W => MinMax.min_impl mv 999 tv W (by rw [← htv, ← hmv]; unfold taken; by_cases h0 : v < 0 <;> by_cases h9 : 999 < v <;> by_cases h8 : 0 < v <;> simp [h0, h9, h8] <;> omega)
      have HTV := Lib.hid htv
      clear htv hmv
      have hE : stepped o ⟨p, f1, f2, f3⟩ v = ⟨pc, f1.set on1 tv, f2, f3⟩ := by simp only [stepped, HK.out, HON1.out, Int.toNat_natCast, HTV.out, ← HPC.out]; simp
      have HE := Lib.hid hE
      clear hE hnums hr
      go_upto_region 7 with fail
      obtain ⟨V4, hV4⟩ : ∃ V4, V.drew = V4 := ⟨_, rfl⟩
      replace qM := qM.drew
      rw [hV4] at qM
      replace qO := qO.drew
      rw [hV4] at qO
      replace qR := qR.drew
      rw [hV4] at qR
      have hB := gbelow_drewN hB 1
      replace hB : Below b w V4 := by rw [← hV4]; exact hB
      have hzb : b + 3 ≤ V4.heap.size := qR.lt
      have s9 : V4.cell? ⟨b + 1, 1, none⟩ = some (.int .i64 (on1 : Int)) := qO.at rfl
      refine wp_region_held_drew (S := (fun w' => w'.cell? ⟨b + 1, 1, none⟩ = some (.int .i64 (on1 : Int)))) (by kernel_rfl) (by rw [hV4]; exact s9) (fun hHeld => ?_)
      rw [hV4]
      clear hV4
      refine wpAnyH_take (i := 0) (v := ?vk30) (List.getElem?_toArray.trans rfl) (by kernel_rfl) (by kernel_rfl) (by kernel_rfl) (fun _ _ _ h => h) (Or.inl ⟨by rfl, ?yk30⟩) (by assumption) ?rk30
      case yk30 => (intro w hSw; (try dsimp only at hSw); go_simp; try with_reducible rfl)
      try simp only [Act.put, List.setIfInBounds_toArray, List.set_cons_zero, List.set_cons_succ]
      refine wpAnyH_take (i := 1) (v := ?vk31) (List.getElem?_toArray.trans rfl) (by kernel_rfl) (by kernel_rfl) (by kernel_rfl) (fun _ _ _ h => h) (Or.inl ⟨by rfl, ?yk31⟩) (by assumption) ?rk31
      case yk31 => (intro w hSw; (try dsimp only at hSw); go_simp; try with_reducible rfl)
      try simp only [Act.put, List.setIfInBounds_toArray, List.set_cons_zero, List.set_cons_succ]
      refine wpAnyH_take (i := 2) (v := ?vk32) (List.getElem?_toArray.trans rfl) (by kernel_rfl) (by kernel_rfl) (by kernel_rfl) (fun _ _ _ h => h) (Or.inl ⟨by rfl, ?yk32⟩) (by assumption) ?rk32
      case yk32 => (intro w hSw; (try dsimp only at hSw); go_simp; try with_reducible rfl)
      try simp only [Act.put, List.setIfInBounds_toArray, List.set_cons_zero, List.set_cons_succ]
      refine wpAnyH_take (i := 5) (v := ?vk35) (List.getElem?_toArray.trans rfl) (by kernel_rfl) (by kernel_rfl) (by kernel_rfl) (fun _ _ _ h => h) (Or.inl ⟨by rfl, ?yk35⟩) (by assumption) ?rk35
      case yk35 => (intro w hSw; (try dsimp only at hSw); go_simp; try with_reducible rfl)
      try simp only [Act.put, List.setIfInBounds_toArray, List.set_cons_zero, List.set_cons_succ]
      refine wpAnyH_ready (rs := [3]) (by kernel_rfl) (by simp) ?_
      refine AllReadyH.cons (List.getElem?_toArray.trans rfl) (fun K hK => ?_) AllReadyH.nil
      go_simp
      go_at_call 74
      refine (hmax _).mono ?_
      rintro e u3 ⟨rfl, hy⟩
      have qM := qM.below hy
      have qO := qO.below hy
      have qR := qR.below hy
      have hB := hB.trans (hy.mono (by omega))
      have hzb := Nat.le_trans hzb hy.size
      clear hy
      have s9 : u3.cell? ⟨b + 1, 1, none⟩ = some (.int .i64 (on1 : Int)) := qO.at rfl
      refine hK.out _ _ s9 (fun hHeld => ?_)
      clear hK K
      try simp only [Act.put, List.setIfInBounds_toArray, List.set_cons_zero, List.set_cons_succ]
      refine wpAnyH_ready (rs := [4]) (by kernel_rfl) (by simp) ?_
      refine AllReadyH.cons (List.getElem?_toArray.trans rfl) (fun K hK => ?_) AllReadyH.nil
      go_simp
      go_at_call 73
      refine (hmin _).mono ?_
      rintro e u4 ⟨rfl, hy⟩
      have qM := qM.below hy
      have qO := qO.below hy
      have qR := qR.below hy
      have hB := hB.trans (hy.mono (by omega))
      have hzb := Nat.le_trans hzb hy.size
      clear hy
      have s9 : u4.cell? ⟨b + 1, 1, none⟩ = some (.int .i64 (on1 : Int)) := qO.at rfl
      refine hK.out _ _ s9 (fun hHeld => ?_)
      clear hK K
      try simp only [Act.put, List.setIfInBounds_toArray, List.set_cons_zero, List.set_cons_succ]
      refine wpAnyH_take (i := 6) (v := ?vk36) (List.getElem?_toArray.trans rfl) (by kernel_rfl) (by kernel_rfl) (by kernel_rfl) (fun _ _ _ h => h) (Or.inl ⟨by rfl, ?yk36⟩) (by assumption) ?rk36
      case yk36 => (intro w hSw; (try dsimp only at hSw); go_simp; try with_reducible rfl)
      try simp only [Act.put, List.setIfInBounds_toArray, List.set_cons_zero, List.set_cons_succ]
      refine wpAnyH_ready (rs := [7]) (by kernel_rfl) (by simp) ?_
      refine AllReadyH.cons (List.getElem?_toArray.trans rfl) (fun K hK => ?_) AllReadyH.nil
      have c0 := qM.at (mc_at1 L1.out ha4)
      have d0 := qM.free (1 + on1)
      have qM5 := qM.set (1 + on1) (.int .i64 tv)
      rw [mc_set1 L1.out ha4] at qM5
      have qO5 := qO.other (a := ⟨b, 1 + on1, none⟩) (.int .i64 tv) (by dsimp only; omega)
      have qR5 := qR.other (a := ⟨b, 1 + on1, none⟩) (.int .i64 tv) (by dsimp only; omega)
      have hB5 := hB.setCell (p := ⟨b, 1 + on1, none⟩) (Nat.le_refl _) (.int .i64 tv)
      obtain ⟨V5, hV5⟩ : ∃ V5, u4.setCell ⟨b, 1 + on1, none⟩ (.int .i64 tv) = V5 := ⟨_, rfl⟩
      rw [hV5] at qM5 qO5 qR5 hB5
      go_simp
      try rw [hV5]
      have s9 : V5.cell? ⟨b + 1, 1, none⟩ = some (.int .i64 (on1 : Int)) := qO5.at rfl
      have D := Lib.hid (Done.mk HE.out (by rw [List.length_set]; exact L1.out) L2.out L3.out qM5 qR5 hB5)
      clear hV5 c0 d0
      refine hK.out _ _ s9 (fun hHeld => ?_)
      clear hK K
      try simp only [Act.put, List.setIfInBounds_toArray, List.set_cons_zero, List.set_cons_succ]
      refine wpAnyH_done (by kernel_rfl) ?_ _
      go_wp2_with fail
      go_meet
      case rel => exact ⟨rfl, _, _, rfl, D.out⟩
    · obtain ⟨tv, htv⟩ : ∃ t, taken v = t := ⟨_, rfl⟩
      have htin : 0 ≤ tv ∧ tv ≤ 999 := by rw [← htv]; exact taken_in v
      obtain ⟨mv, hmv⟩ : ∃ m : Int, (if 0 < v then v else 0) = m := ⟨_, rfl⟩
      have hmax := fun W => MinMax.max_impl v 0 mv W (by rw [← hmv]; by_cases h9 : 0 < v <;> simp [h9] <;> omega)
      have hmin := fun W => MinMax.min_impl mv 999 tv W (by rw [← htv, ← hmv]; unfold taken; by_cases h0 : v < 0 <;> by_cases h9 : 999 < v <;> by_cases h8 : 0 < v <;> simp [h0, h9, h8] <;> omega)
      have HTV := Lib.hid htv
      clear htv hmv
      have hE : stepped o ⟨p, f1, f2, f3⟩ v = ⟨pc, f1.set on1 tv, f2, f3⟩ := by simp only [stepped, HK.out, HON1.out, Int.toNat_natCast, HTV.out, ← HPC.out]; simp
      have HE := Lib.hid hE
      clear hE hnums hr
      go_upto_region 7 with fail
      obtain ⟨V4, hV4⟩ : ∃ V4, V.drew = V4 := ⟨_, rfl⟩
      replace qM := qM.drew
      rw [hV4] at qM
      replace qO := qO.drew
      rw [hV4] at qO
      replace qR := qR.drew
      rw [hV4] at qR
      have hB := gbelow_drewN hB 1
      replace hB : Below b w V4 := by rw [← hV4]; exact hB
      have hzb : b + 3 ≤ V4.heap.size := qR.lt
      have s9 : V4.cell? ⟨b + 1, 1, none⟩ = some (.int .i64 (on1 : Int)) := qO.at rfl
      refine wp_region_held_drew (S := (fun w' => w'.cell? ⟨b + 1, 1, none⟩ = some (.int .i64 (on1 : Int)))) (by kernel_rfl) (by rw [hV4]; exact s9) (fun hHeld => ?_)
      rw [hV4]
      clear hV4
      refine wpAnyH_take (i := 0) (v := ?vk40) (List.getElem?_toArray.trans rfl) (by kernel_rfl) (by kernel_rfl) (by kernel_rfl) (fun _ _ _ h => h) (Or.inl ⟨by rfl, ?yk40⟩) (by assumption) ?rk40
      case yk40 => (intro w hSw; (try dsimp only at hSw); go_simp; try with_reducible rfl)
      try simp only [Act.put, List.setIfInBounds_toArray, List.set_cons_zero, List.set_cons_succ]
      refine wpAnyH_take (i := 1) (v := ?vk41) (List.getElem?_toArray.trans rfl) (by kernel_rfl) (by kernel_rfl) (by kernel_rfl) (fun _ _ _ h => h) (Or.inl ⟨by rfl, ?yk41⟩) (by assumption) ?rk41
      case yk41 => (intro w hSw; (try dsimp only at hSw); go_simp; try with_reducible rfl)
      try simp only [Act.put, List.setIfInBounds_toArray, List.set_cons_zero, List.set_cons_succ]
      refine wpAnyH_take (i := 2) (v := ?vk42) (List.getElem?_toArray.trans rfl) (by kernel_rfl) (by kernel_rfl) (by kernel_rfl) (fun _ _ _ h => h) (Or.inl ⟨by rfl, ?yk42⟩) (by assumption) ?rk42
      case yk42 => (intro w hSw; (try dsimp only at hSw); go_simp; try with_reducible rfl)
      try simp only [Act.put, List.setIfInBounds_toArray, List.set_cons_zero, List.set_cons_succ]
      refine wpAnyH_take (i := 5) (v := ?vk45) (List.getElem?_toArray.trans rfl) (by kernel_rfl) (by kernel_rfl) (by kernel_rfl) (fun _ _ _ h => h) (Or.inl ⟨by rfl, ?yk45⟩) (by assumption) ?rk45
      case yk45 => (intro w hSw; (try dsimp only at hSw); go_simp; try with_reducible rfl)
      try simp only [Act.put, List.setIfInBounds_toArray, List.set_cons_zero, List.set_cons_succ]
      refine wpAnyH_ready (rs := [3]) (by kernel_rfl) (by simp) ?_
      refine AllReadyH.cons (List.getElem?_toArray.trans rfl) (fun K hK => ?_) AllReadyH.nil
      go_simp
      go_at_call 74
      refine (hmax _).mono ?_
      rintro e u3 ⟨rfl, hy⟩
      have qM := qM.below hy
      have qO := qO.below hy
      have qR := qR.below hy
      have hB := hB.trans (hy.mono (by omega))
      have hzb := Nat.le_trans hzb hy.size
      clear hy
      have s9 : u3.cell? ⟨b + 1, 1, none⟩ = some (.int .i64 (on1 : Int)) := qO.at rfl
      refine hK.out _ _ s9 (fun hHeld => ?_)
      clear hK K
      try simp only [Act.put, List.setIfInBounds_toArray, List.set_cons_zero, List.set_cons_succ]
      refine wpAnyH_ready (rs := [4]) (by kernel_rfl) (by simp) ?_
      refine AllReadyH.cons (List.getElem?_toArray.trans rfl) (fun K hK => ?_) AllReadyH.nil
      go_simp
      go_at_call 73
      refine (hmin _).mono ?_
      rintro e u4 ⟨rfl, hy⟩
      have qM := qM.below hy
      have qO := qO.below hy
      have qR := qR.below hy
      have hB := hB.trans (hy.mono (by omega))
      have hzb := Nat.le_trans hzb hy.size
      clear hy
      have s9 : u4.cell? ⟨b + 1, 1, none⟩ = some (.int .i64 (on1 : Int)) := qO.at rfl
      refine hK.out _ _ s9 (fun hHeld => ?_)
      clear hK K
      try simp only [Act.put, List.setIfInBounds_toArray, List.set_cons_zero, List.set_cons_succ]
      refine wpAnyH_take (i := 6) (v := ?vk46) (List.getElem?_toArray.trans rfl) (by kernel_rfl) (by kernel_rfl) (by kernel_rfl) (fun _ _ _ h => h) (Or.inl ⟨by rfl, ?yk46⟩) (by assumption) ?rk46
      case yk46 => (intro w hSw; (try dsimp only at hSw); go_simp; try with_reducible rfl)
      try simp only [Act.put, List.setIfInBounds_toArray, List.set_cons_zero, List.set_cons_succ]
      refine wpAnyH_ready (rs := [7]) (by kernel_rfl) (by simp) ?_
      refine AllReadyH.cons (List.getElem?_toArray.trans rfl) (fun K hK => ?_) AllReadyH.nil
      have c0 := qM.at (mc_at1 L1.out ha4)
      have d0 := qM.free (1 + on1)
      have qM5 := qM.set (1 + on1) (.int .i64 tv)
      rw [mc_set1 L1.out ha4] at qM5
      have qO5 := qO.other (a := ⟨b, 1 + on1, none⟩) (.int .i64 tv) (by dsimp only; omega)
      have qR5 := qR.other (a := ⟨b, 1 + on1, none⟩) (.int .i64 tv) (by dsimp only; omega)
      have hB5 := hB.setCell (p := ⟨b, 1 + on1, none⟩) (Nat.le_refl _) (.int .i64 tv)
      obtain ⟨V5, hV5⟩ : ∃ V5, u4.setCell ⟨b, 1 + on1, none⟩ (.int .i64 tv) = V5 := ⟨_, rfl⟩
      rw [hV5] at qM5 qO5 qR5 hB5
      go_simp
      try rw [hV5]
      have s9 : V5.cell? ⟨b + 1, 1, none⟩ = some (.int .i64 (on1 : Int)) := qO5.at rfl
      have D := Lib.hid (Done.mk HE.out (by rw [List.length_set]; exact L1.out) L2.out L3.out qM5 qR5 hB5)
      clear hV5 c0 d0
      refine hK.out _ _ s9 (fun hHeld => ?_)
      clear hK K
      try simp only [Act.put, List.setIfInBounds_toArray, List.set_cons_zero, List.set_cons_succ]
      refine wpAnyH_done (by kernel_rfl) ?_ _
      go_wp2_with fail
      go_meet
      case rel => exact ⟨rfl, _, _, rfl, D.out⟩
    · obtain ⟨on2, hon2⟩ : ∃ a : Nat, o.f2 = (a : Int) := ⟨o.f2.toNat, by omega⟩
      have hb2 : on2 < 4 := by omega
      have hi2 : (on2 : Int) < 4 := by omega
      have HON2 := Lib.hid hon2
      rw [hon2] at qO
      clear hon2
      obtain ⟨on3, hon3⟩ : ∃ a : Nat, o.f3 = (a : Int) := ⟨o.f3.toNat, by omega⟩
      have hb3 : on3 < 4 := by omega
      have hi3 : (on3 : Int) < 4 := by omega
      have HON3 := Lib.hid hon3
      rw [hon3] at qO
      clear hon3
      obtain ⟨y, hy⟩ : ∃ q, f1.getD on2 0 = q := ⟨_, rfl⟩
      have ry : V.cell? ⟨b, 1 + on2, none⟩ = some (.int .i64 y) := by rw [← hy]; exact qM.at (mc_at1 L1.out hb2)
      have HYY := Lib.hid hy
      have bdy : 0 ≤ y ∧ y ≤ 999 := by rw [← hy]; exact hr on2
      obtain ⟨z, hz⟩ : ∃ q, f1.getD on3 0 = q := ⟨_, rfl⟩
      have rz : V.cell? ⟨b, 1 + on3, none⟩ = some (.int .i64 z) := by rw [← hz]; exact qM.at (mc_at1 L1.out hb3)
      have HZZ := Lib.hid hz
      have bdz : 0 ≤ z ∧ z ≤ 999 := by rw [← hz]; exact hr on3
      obtain ⟨m, hm9⟩ : ∃ m, (y + z) % 1000 = m := ⟨_, rfl⟩
      have hmod := fun W => mod1000 (y + z) W (by omega)
      rw [hm9] at hmod
      have hm0 : 0 ≤ m ∧ m ≤ 999 := by omega
      have HM := Lib.hid hm9
      have hwr : IntKind.i64.wrap (y + z) = y + z := by rw [IntKind.wrap_i64]; omega
      have hwr2 : wrap64 (y + z) = y + z := IntWalk.wrap64_in _ ⟨by omega, by omega⟩
      clear hm9 hy hz
      have hE : stepped o ⟨p, f1, f2, f3⟩ v = ⟨pc, f1.set on1 m, f2, f3⟩ := by simp only [stepped, HK.out, HON1.out, HON2.out, HON3.out, Int.toNat_natCast, HYY.out, HZZ.out, HM.out, ← HPC.out]; simp
      have HE := Lib.hid hE
      clear hE hnums hr
      go_upto_region 9 with fail
      obtain ⟨V4, hV4⟩ : ∃ V4, V.drew = V4 := ⟨_, rfl⟩
      replace qM := qM.drew
      rw [hV4] at qM
      replace qO := qO.drew
      rw [hV4] at qO
      replace qR := qR.drew
      rw [hV4] at qR
      have hB := gbelow_drewN hB 1
      replace hB : Below b w V4 := by rw [← hV4]; exact hB
      have ry : V4.cell? ⟨b, 1 + on2, none⟩ = some (.int .i64 y) := by rw [← hV4]; exact ry
      have rz : V4.cell? ⟨b, 1 + on3, none⟩ = some (.int .i64 z) := by rw [← hV4]; exact rz
      have hzb : b + 3 ≤ V4.heap.size := qR.lt
      have s9 : V4.cell? ⟨b + 1, 1, none⟩ = some (.int .i64 (on1 : Int)) ∧ V4.cell? ⟨b + 1, 2, none⟩ = some (.int .i64 (on2 : Int)) ∧ V4.cell? ⟨b + 1, 3, none⟩ = some (.int .i64 (on3 : Int)) := ⟨qO.at rfl, qO.at rfl, qO.at rfl⟩
      refine wp_region_held_drew (S := (fun w' => w'.cell? ⟨b + 1, 1, none⟩ = some (.int .i64 (on1 : Int)) ∧ w'.cell? ⟨b + 1, 2, none⟩ = some (.int .i64 (on2 : Int)) ∧ w'.cell? ⟨b + 1, 3, none⟩ = some (.int .i64 (on3 : Int)))) (by kernel_rfl) (by rw [hV4]; exact s9) (fun hHeld => ?_)
      rw [hV4]
      clear hV4
      refine wpAnyH_take (i := 0) (v := ?vk50) (List.getElem?_toArray.trans rfl) (by kernel_rfl) (by kernel_rfl) (by kernel_rfl) (fun _ _ _ h => h) (Or.inl ⟨by rfl, ?yk50⟩) (by assumption) ?rk50
      case yk50 => (intro w hSw; (try dsimp only at hSw); go_simp; try with_reducible rfl)
      try simp only [Act.put, List.setIfInBounds_toArray, List.set_cons_zero, List.set_cons_succ]
      refine wpAnyH_take (i := 1) (v := ?vk51) (List.getElem?_toArray.trans rfl) (by kernel_rfl) (by kernel_rfl) (by kernel_rfl) (fun _ _ _ h => h) (Or.inl ⟨by rfl, ?yk51⟩) (by assumption) ?rk51
      case yk51 => (intro w hSw; (try dsimp only at hSw); go_simp; try with_reducible rfl)
      try simp only [Act.put, List.setIfInBounds_toArray, List.set_cons_zero, List.set_cons_succ]
      refine wpAnyH_take (i := 2) (v := ?vk52) (List.getElem?_toArray.trans rfl) (by kernel_rfl) (by kernel_rfl) (by kernel_rfl) (fun _ _ _ h => h) (Or.inl ⟨by rfl, ?yk52⟩) (by assumption) ?rk52
      case yk52 => (intro w hSw; (try dsimp only at hSw); go_simp; try with_reducible rfl)
      try simp only [Act.put, List.setIfInBounds_toArray, List.set_cons_zero, List.set_cons_succ]
      refine wpAnyH_take (i := 3) (v := ?vk53) (List.getElem?_toArray.trans rfl) (by kernel_rfl) (by kernel_rfl) (by kernel_rfl) (fun _ _ _ h => h) (Or.inl ⟨by rfl, ?yk53⟩) (by assumption) ?rk53
      case yk53 => (intro w hSw; (try dsimp only at hSw); go_simp; try with_reducible rfl)
      try simp only [Act.put, List.setIfInBounds_toArray, List.set_cons_zero, List.set_cons_succ]
      refine wpAnyH_take (i := 4) (v := ?vk54) (List.getElem?_toArray.trans rfl) (by kernel_rfl) (by kernel_rfl) (by kernel_rfl) (fun _ _ _ h => h) (Or.inl ⟨by rfl, ?yk54⟩) (by assumption) ?rk54
      case yk54 => (intro w hSw; (try dsimp only at hSw); go_simp; try with_reducible rfl)
      try simp only [Act.put, List.setIfInBounds_toArray, List.set_cons_zero, List.set_cons_succ]
      refine wpAnyH_take (i := 5) (v := ?vk55) (List.getElem?_toArray.trans rfl) (by kernel_rfl) (by kernel_rfl) (by kernel_rfl) (fun _ _ _ h => h) (Or.inl ⟨by rfl, ?yk55⟩) (by assumption) ?rk55
      case yk55 => (intro w hSw; (try dsimp only at hSw); go_simp; try with_reducible rfl)
      try simp only [Act.put, List.setIfInBounds_toArray, List.set_cons_zero, List.set_cons_succ]
      refine wpAnyH_take (i := 7) (v := ?vk57) (List.getElem?_toArray.trans rfl) (by kernel_rfl) (by kernel_rfl) (by kernel_rfl) (fun _ _ _ h => h) (Or.inl ⟨by rfl, ?yk57⟩) (by assumption) ?rk57
      case yk57 => (intro w hSw; (try dsimp only at hSw); go_simp; try with_reducible rfl)
      try simp only [Act.put, List.setIfInBounds_toArray, List.set_cons_zero, List.set_cons_succ]
      refine wpAnyH_take (i := 8) (v := ?vk58) (List.getElem?_toArray.trans rfl) (by kernel_rfl) (by kernel_rfl) (by kernel_rfl) (fun _ _ _ h => h) (Or.inl ⟨by rfl, ?yk58⟩) (by assumption) ?rk58
      case yk58 => (intro w hSw; (try dsimp only at hSw); go_simp; try with_reducible rfl)
      try simp only [Act.put, List.setIfInBounds_toArray, List.set_cons_zero, List.set_cons_succ]
      refine wpAnyH_take (i := 9) (v := ?vk59) (List.getElem?_toArray.trans rfl) (by kernel_rfl) (by kernel_rfl) (by kernel_rfl) (fun _ _ _ h => h) (Or.inl ⟨by rfl, ?yk59⟩) (by assumption) ?rk59
      case yk59 => (intro w hSw; (try dsimp only at hSw); go_simp; try with_reducible rfl)
      try simp only [Act.put, List.setIfInBounds_toArray, List.set_cons_zero, List.set_cons_succ]
      refine wpAnyH_take (i := 10) (v := ?vk510) (List.getElem?_toArray.trans rfl) (by kernel_rfl) (by kernel_rfl) (by kernel_rfl) (fun _ _ _ h => h) (Or.inl ⟨by rfl, ?yk510⟩) (by assumption) ?rk510
      case yk510 => (intro w hSw; (try dsimp only at hSw); go_simp; try with_reducible rfl)
      try simp only [Act.put, List.setIfInBounds_toArray, List.set_cons_zero, List.set_cons_succ]
      refine wpAnyH_take (i := 14) (v := ?vk514) (List.getElem?_toArray.trans rfl) (by kernel_rfl) (by kernel_rfl) (by kernel_rfl) (fun _ _ _ h => h) (Or.inl ⟨by rfl, ?yk514⟩) (by assumption) ?rk514
      case yk514 => (intro w hSw; (try dsimp only at hSw); go_simp; try with_reducible rfl)
      try simp only [Act.put, List.setIfInBounds_toArray, List.set_cons_zero, List.set_cons_succ]
      refine wpAnyH_ready (rs := [6, 11]) (by kernel_rfl) (by simp) ?_
      refine AllReadyH.cons (List.getElem?_toArray.trans rfl) (fun K hK => ?ka) (AllReadyH.cons (List.getElem?_toArray.trans rfl) (fun K hK => ?kb) AllReadyH.nil)
      case ka =>
        go_simp
        refine hK.out _ _ s9 (fun hHeld => ?_)
        clear hK K
        try simp only [Act.put, List.setIfInBounds_toArray, List.set_cons_zero, List.set_cons_succ]
        refine wpAnyH_ready (rs := [11]) (by kernel_rfl) (by simp) ?_
        refine AllReadyH.cons (List.getElem?_toArray.trans rfl) (fun K hK => ?_) AllReadyH.nil
        go_simp
        skip
        refine hK.out _ _ s9 (fun hHeld => ?_)
        clear hK K
        try simp only [Act.put, List.setIfInBounds_toArray, List.set_cons_zero, List.set_cons_succ]
        refine wpAnyH_take (i := 12) (v := ?vk5ka12) (List.getElem?_toArray.trans rfl) (by kernel_rfl) (by kernel_rfl) (by kernel_rfl) (fun _ _ _ h => h) (Or.inl ⟨by rfl, ?yk5ka12⟩) (by assumption) ?rk5ka12
        case yk5ka12 => (intro w hSw; (try dsimp only at hSw); go_simp; try with_reducible rfl)
        try simp only [Act.put, List.setIfInBounds_toArray, List.set_cons_zero, List.set_cons_succ]
        refine wpAnyH_ready (rs := [13]) (by kernel_rfl) (by simp) ?_
        refine AllReadyH.cons (List.getElem?_toArray.trans rfl) (fun K hK => ?_) AllReadyH.nil
        go_simp
        go_at_call 75
        refine (hmod _).mono ?_
        rintro e u13 ⟨rfl, rfl⟩
        refine hK.out _ _ s9 (fun hHeld => ?_)
        clear hK K
        try simp only [Act.put, List.setIfInBounds_toArray, List.set_cons_zero, List.set_cons_succ]
        refine wpAnyH_take (i := 15) (v := ?vk5ka15) (List.getElem?_toArray.trans rfl) (by kernel_rfl) (by kernel_rfl) (by kernel_rfl) (fun _ _ _ h => h) (Or.inl ⟨by rfl, ?yk5ka15⟩) (by assumption) ?rk5ka15
        case yk5ka15 => (intro w hSw; (try dsimp only at hSw); go_simp; try with_reducible rfl)
        try simp only [Act.put, List.setIfInBounds_toArray, List.set_cons_zero, List.set_cons_succ]
        refine wpAnyH_ready (rs := [16]) (by kernel_rfl) (by simp) ?_
        refine AllReadyH.cons (List.getElem?_toArray.trans rfl) (fun K hK => ?_) AllReadyH.nil
        have c0 := qM.at (mc_at1 L1.out ha4)
        have d0 := qM.free (1 + on1)
        have qM5 := qM.set (1 + on1) (.int .i64 m)
        rw [mc_set1 L1.out ha4] at qM5
        have qO5 := qO.other (a := ⟨b, 1 + on1, none⟩) (.int .i64 m) (by dsimp only; omega)
        have qR5 := qR.other (a := ⟨b, 1 + on1, none⟩) (.int .i64 m) (by dsimp only; omega)
        have hB5 := hB.setCell (p := ⟨b, 1 + on1, none⟩) (Nat.le_refl _) (.int .i64 m)
        obtain ⟨V5, hV5⟩ : ∃ V5, V4.setCell ⟨b, 1 + on1, none⟩ (.int .i64 m) = V5 := ⟨_, rfl⟩
        rw [hV5] at qM5 qO5 qR5 hB5
        go_simp
        try rw [hV5]
        have s9 : V5.cell? ⟨b + 1, 1, none⟩ = some (.int .i64 (on1 : Int)) ∧ V5.cell? ⟨b + 1, 2, none⟩ = some (.int .i64 (on2 : Int)) ∧ V5.cell? ⟨b + 1, 3, none⟩ = some (.int .i64 (on3 : Int)) := ⟨qO5.at rfl, qO5.at rfl, qO5.at rfl⟩
        have D := Lib.hid (Done.mk HE.out (by rw [List.length_set]; exact L1.out) L2.out L3.out qM5 qR5 hB5)
        clear hV5 c0 d0
        refine hK.out _ _ s9 (fun hHeld => ?_)
        clear hK K
        try simp only [Act.put, List.setIfInBounds_toArray, List.set_cons_zero, List.set_cons_succ]
        refine wpAnyH_done (by kernel_rfl) ?_ _
        go_wp2_with fail
        go_meet
        case rel => exact ⟨rfl, _, _, rfl, D.out⟩
      case kb =>
        go_simp
        refine hK.out _ _ s9 (fun hHeld => ?_)
        clear hK K
        try simp only [Act.put, List.setIfInBounds_toArray, List.set_cons_zero, List.set_cons_succ]
        refine wpAnyH_ready (rs := [6]) (by kernel_rfl) (by simp) ?_
        refine AllReadyH.cons (List.getElem?_toArray.trans rfl) (fun K hK => ?_) AllReadyH.nil
        go_simp
        skip
        refine hK.out _ _ s9 (fun hHeld => ?_)
        clear hK K
        try simp only [Act.put, List.setIfInBounds_toArray, List.set_cons_zero, List.set_cons_succ]
        refine wpAnyH_take (i := 12) (v := ?vk5kb12) (List.getElem?_toArray.trans rfl) (by kernel_rfl) (by kernel_rfl) (by kernel_rfl) (fun _ _ _ h => h) (Or.inl ⟨by rfl, ?yk5kb12⟩) (by assumption) ?rk5kb12
        case yk5kb12 => (intro w hSw; (try dsimp only at hSw); go_simp; try with_reducible rfl)
        try simp only [Act.put, List.setIfInBounds_toArray, List.set_cons_zero, List.set_cons_succ]
        refine wpAnyH_ready (rs := [13]) (by kernel_rfl) (by simp) ?_
        refine AllReadyH.cons (List.getElem?_toArray.trans rfl) (fun K hK => ?_) AllReadyH.nil
        go_simp
        go_at_call 75
        refine (hmod _).mono ?_
        rintro e u13 ⟨rfl, rfl⟩
        refine hK.out _ _ s9 (fun hHeld => ?_)
        clear hK K
        try simp only [Act.put, List.setIfInBounds_toArray, List.set_cons_zero, List.set_cons_succ]
        refine wpAnyH_take (i := 15) (v := ?vk5kb15) (List.getElem?_toArray.trans rfl) (by kernel_rfl) (by kernel_rfl) (by kernel_rfl) (fun _ _ _ h => h) (Or.inl ⟨by rfl, ?yk5kb15⟩) (by assumption) ?rk5kb15
        case yk5kb15 => (intro w hSw; (try dsimp only at hSw); go_simp; try with_reducible rfl)
        try simp only [Act.put, List.setIfInBounds_toArray, List.set_cons_zero, List.set_cons_succ]
        refine wpAnyH_ready (rs := [16]) (by kernel_rfl) (by simp) ?_
        refine AllReadyH.cons (List.getElem?_toArray.trans rfl) (fun K hK => ?_) AllReadyH.nil
        have c0 := qM.at (mc_at1 L1.out ha4)
        have d0 := qM.free (1 + on1)
        have qM5 := qM.set (1 + on1) (.int .i64 m)
        rw [mc_set1 L1.out ha4] at qM5
        have qO5 := qO.other (a := ⟨b, 1 + on1, none⟩) (.int .i64 m) (by dsimp only; omega)
        have qR5 := qR.other (a := ⟨b, 1 + on1, none⟩) (.int .i64 m) (by dsimp only; omega)
        have hB5 := hB.setCell (p := ⟨b, 1 + on1, none⟩) (Nat.le_refl _) (.int .i64 m)
        obtain ⟨V5, hV5⟩ : ∃ V5, V4.setCell ⟨b, 1 + on1, none⟩ (.int .i64 m) = V5 := ⟨_, rfl⟩
        rw [hV5] at qM5 qO5 qR5 hB5
        go_simp
        try rw [hV5]
        have s9 : V5.cell? ⟨b + 1, 1, none⟩ = some (.int .i64 (on1 : Int)) ∧ V5.cell? ⟨b + 1, 2, none⟩ = some (.int .i64 (on2 : Int)) ∧ V5.cell? ⟨b + 1, 3, none⟩ = some (.int .i64 (on3 : Int)) := ⟨qO5.at rfl, qO5.at rfl, qO5.at rfl⟩
        have D := Lib.hid (Done.mk HE.out (by rw [List.length_set]; exact L1.out) L2.out L3.out qM5 qR5 hB5)
        clear hV5 c0 d0
        refine hK.out _ _ s9 (fun hHeld => ?_)
        clear hK K
        try simp only [Act.put, List.setIfInBounds_toArray, List.set_cons_zero, List.set_cons_succ]
        refine wpAnyH_done (by kernel_rfl) ?_ _
        go_wp2_with fail
        go_meet
        case rel => exact ⟨rfl, _, _, rfl, D.out⟩
    · obtain ⟨on2, hon2⟩ : ∃ a : Nat, o.f2 = (a : Int) := ⟨o.f2.toNat, by omega⟩
      have hb2 : on2 < 4 := by omega
      have hi2 : (on2 : Int) < 4 := by omega
      have HON2 := Lib.hid hon2
      rw [hon2] at qO
      clear hon2
      obtain ⟨y, hy⟩ : ∃ q, f1.getD on1 0 = q := ⟨_, rfl⟩
      have ry : V.cell? ⟨b, 1 + on1, none⟩ = some (.int .i64 y) := by rw [← hy]; exact qM.at (mc_at1 L1.out ha4)
      have HYY := Lib.hid hy
      clear hy
      have hE : stepped o ⟨p, f1, f2, f3⟩ v = ⟨pc, f1, f2, f3.set on2 y⟩ := by simp only [stepped, HK.out, HON1.out, HON2.out, Int.toNat_natCast, HYY.out, ← HPC.out]; simp
      have HE := Lib.hid hE
      clear hE hnums hr
      go_upto_region 11 with fail
      obtain ⟨V4, hV4⟩ : ∃ V4, V.drew = V4 := ⟨_, rfl⟩
      replace qM := qM.drew
      rw [hV4] at qM
      replace qO := qO.drew
      rw [hV4] at qO
      replace qR := qR.drew
      rw [hV4] at qR
      have hB := gbelow_drewN hB 1
      replace hB : Below b w V4 := by rw [← hV4]; exact hB
      have ry : V4.cell? ⟨b, 1 + on1, none⟩ = some (.int .i64 y) := by rw [← hV4]; exact ry
      have hzb : b + 3 ≤ V4.heap.size := qR.lt
      have s9 : V4.cell? ⟨b + 1, 1, none⟩ = some (.int .i64 (on1 : Int)) ∧ V4.cell? ⟨b + 1, 2, none⟩ = some (.int .i64 (on2 : Int)) := ⟨qO.at rfl, qO.at rfl⟩
      refine wp_region_held_drew (S := (fun w' => w'.cell? ⟨b + 1, 1, none⟩ = some (.int .i64 (on1 : Int)) ∧ w'.cell? ⟨b + 1, 2, none⟩ = some (.int .i64 (on2 : Int)))) (by kernel_rfl) (by rw [hV4]; exact s9) (fun hHeld => ?_)
      rw [hV4]
      clear hV4
      refine wpAnyH_take (i := 0) (v := ?vk60) (List.getElem?_toArray.trans rfl) (by kernel_rfl) (by kernel_rfl) (by kernel_rfl) (fun _ _ _ h => h) (Or.inl ⟨by rfl, ?yk60⟩) (by assumption) ?rk60
      case yk60 => (intro w hSw; (try dsimp only at hSw); go_simp; try with_reducible rfl)
      try simp only [Act.put, List.setIfInBounds_toArray, List.set_cons_zero, List.set_cons_succ]
      refine wpAnyH_take (i := 1) (v := ?vk61) (List.getElem?_toArray.trans rfl) (by kernel_rfl) (by kernel_rfl) (by kernel_rfl) (fun _ _ _ h => h) (Or.inl ⟨by rfl, ?yk61⟩) (by assumption) ?rk61
      case yk61 => (intro w hSw; (try dsimp only at hSw); go_simp; try with_reducible rfl)
      try simp only [Act.put, List.setIfInBounds_toArray, List.set_cons_zero, List.set_cons_succ]
      refine wpAnyH_take (i := 2) (v := ?vk62) (List.getElem?_toArray.trans rfl) (by kernel_rfl) (by kernel_rfl) (by kernel_rfl) (fun _ _ _ h => h) (Or.inl ⟨by rfl, ?yk62⟩) (by assumption) ?rk62
      case yk62 => (intro w hSw; (try dsimp only at hSw); go_simp; try with_reducible rfl)
      try simp only [Act.put, List.setIfInBounds_toArray, List.set_cons_zero, List.set_cons_succ]
      refine wpAnyH_take (i := 3) (v := ?vk63) (List.getElem?_toArray.trans rfl) (by kernel_rfl) (by kernel_rfl) (by kernel_rfl) (fun _ _ _ h => h) (Or.inl ⟨by rfl, ?yk63⟩) (by assumption) ?rk63
      case yk63 => (intro w hSw; (try dsimp only at hSw); go_simp; try with_reducible rfl)
      try simp only [Act.put, List.setIfInBounds_toArray, List.set_cons_zero, List.set_cons_succ]
      refine wpAnyH_take (i := 4) (v := ?vk64) (List.getElem?_toArray.trans rfl) (by kernel_rfl) (by kernel_rfl) (by kernel_rfl) (fun _ _ _ h => h) (Or.inl ⟨by rfl, ?yk64⟩) (by assumption) ?rk64
      case yk64 => (intro w hSw; (try dsimp only at hSw); go_simp; try with_reducible rfl)
      try simp only [Act.put, List.setIfInBounds_toArray, List.set_cons_zero, List.set_cons_succ]
      refine wpAnyH_take (i := 5) (v := ?vk65) (List.getElem?_toArray.trans rfl) (by kernel_rfl) (by kernel_rfl) (by kernel_rfl) (fun _ _ _ h => h) (Or.inl ⟨by rfl, ?yk65⟩) (by assumption) ?rk65
      case yk65 => (intro w hSw; (try dsimp only at hSw); go_simp; try with_reducible rfl)
      try simp only [Act.put, List.setIfInBounds_toArray, List.set_cons_zero, List.set_cons_succ]
      refine wpAnyH_take (i := 7) (v := ?vk67) (List.getElem?_toArray.trans rfl) (by kernel_rfl) (by kernel_rfl) (by kernel_rfl) (fun _ _ _ h => h) (Or.inl ⟨by rfl, ?yk67⟩) (by assumption) ?rk67
      case yk67 => (intro w hSw; (try dsimp only at hSw); go_simp; try with_reducible rfl)
      try simp only [Act.put, List.setIfInBounds_toArray, List.set_cons_zero, List.set_cons_succ]
      refine wpAnyH_ready (rs := [6]) (by kernel_rfl) (by simp) ?_
      refine AllReadyH.cons (List.getElem?_toArray.trans rfl) (fun K hK => ?_) AllReadyH.nil
      go_simp
      skip
      refine hK.out _ _ s9 (fun hHeld => ?_)
      clear hK K
      try simp only [Act.put, List.setIfInBounds_toArray, List.set_cons_zero, List.set_cons_succ]
      refine wpAnyH_take (i := 8) (v := ?vk68) (List.getElem?_toArray.trans rfl) (by kernel_rfl) (by kernel_rfl) (by kernel_rfl) (fun _ _ _ h => h) (Or.inl ⟨by rfl, ?yk68⟩) (by assumption) ?rk68
      case yk68 => (intro w hSw; (try dsimp only at hSw); go_simp; try with_reducible rfl)
      try simp only [Act.put, List.setIfInBounds_toArray, List.set_cons_zero, List.set_cons_succ]
      refine wpAnyH_ready (rs := [9]) (by kernel_rfl) (by simp) ?_
      refine AllReadyH.cons (List.getElem?_toArray.trans rfl) (fun K hK => ?_) AllReadyH.nil
      have c0 := qM.at (mc_at3 L1.out L2.out L3.out hb2)
      have d0 := qM.free (8 + on2)
      have qM5 := qM.set (8 + on2) (.int .i64 y)
      rw [mc_set3 L1.out L2.out hb2] at qM5
      have qO5 := qO.other (a := ⟨b, 8 + on2, none⟩) (.int .i64 y) (by dsimp only; omega)
      have qR5 := qR.other (a := ⟨b, 8 + on2, none⟩) (.int .i64 y) (by dsimp only; omega)
      have hB5 := hB.setCell (p := ⟨b, 8 + on2, none⟩) (Nat.le_refl _) (.int .i64 y)
      obtain ⟨V5, hV5⟩ : ∃ V5, V4.setCell ⟨b, 8 + on2, none⟩ (.int .i64 y) = V5 := ⟨_, rfl⟩
      rw [hV5] at qM5 qO5 qR5 hB5
      go_simp
      try rw [hV5]
      have s9 : V5.cell? ⟨b + 1, 1, none⟩ = some (.int .i64 (on1 : Int)) ∧ V5.cell? ⟨b + 1, 2, none⟩ = some (.int .i64 (on2 : Int)) := ⟨qO5.at rfl, qO5.at rfl⟩
      have D := Lib.hid (Done.mk HE.out L1.out L2.out (by rw [List.length_set]; exact L3.out) qM5 qR5 hB5)
      clear hV5 c0 d0
      refine hK.out _ _ s9 (fun hHeld => ?_)
      clear hK K
      try simp only [Act.put, List.setIfInBounds_toArray, List.set_cons_zero, List.set_cons_succ]
      refine wpAnyH_done (by kernel_rfl) ?_ _
      go_wp2_with fail
      go_meet
      case rel => exact ⟨rfl, _, _, rfl, D.out⟩
    · obtain ⟨on2, hon2⟩ : ∃ a : Int, o.f2 = a := ⟨_, rfl⟩
      have hb2 : 1 ≤ on2 ∧ on2 ≤ 3 := by omega
      have HON2 := Lib.hid hon2
      rw [hon2] at qO
      clear hon2
      obtain ⟨y, hy⟩ : ∃ q, f1.getD on1 0 = q := ⟨_, rfl⟩
      have ry : V.cell? ⟨b, 1 + on1, none⟩ = some (.int .i64 y) := by rw [← hy]; exact qM.at (mc_at1 L1.out ha4)
      have HYY := Lib.hid hy
      have bdy : 0 ≤ y ∧ y ≤ 999 := by rw [← hy]; exact hr on1
      clear hy
      obtain ⟨q, hq⟩ : ∃ q, y % 2 = q := ⟨_, rfl⟩
      have htm : y.tmod 2 = q := by rw [Int.tmod_eq_emod_of_nonneg (by omega)]; exact hq
      have HQ := Lib.hid hq
      clear hq
      have x1 : V.cell? ⟨b + 1, 1, none⟩ = some (.int .i64 (on1 : Int)) := qO.at rfl
      have x2 : V.cell? ⟨b + 1, 2, none⟩ = some (.int .i64 on2) := qO.at rfl
      have z0 : V.cell? ⟨b, 0, none⟩ = some (.int .i64 pc) := qM.at rfl
      have d0 := qM.free 0
      clear hnums hr
      by_cases q0 : q = 0
      · subst q0
        have hE : stepped o ⟨p, f1, f2, f3⟩ v = ⟨pc + on2, f1, f2, f3⟩ := by simp only [stepped, HK.out, HON1.out, HON2.out, Int.toNat_natCast, HYY.out, HQ.out, ← HPC.out]; simp
        have hw9 : wrap64 (pc + on2) = pc + on2 := IntWalk.wrap64_in _ ⟨by omega, by omega⟩
        have hw8 : IntKind.i64.wrap (pc + on2) = pc + on2 := by rw [IntKind.wrap_i64]; omega
        have D := Lib.hid (Done.mk (Q := ⟨pc + on2, f1, f2, f3⟩) hE L1.out L2.out L3.out (qM.set 0 (.int .i64 (pc + on2))) (qR.other (a := ⟨b, 0, none⟩) (.int .i64 (pc + on2)) (by dsimp only; omega)) (hB.setCell (p := ⟨b, 0, none⟩) (Nat.le_refl _) (.int .i64 (pc + on2))))
        clear hE
        go_wp2_with fail
        go_meet
        case rel => exact ⟨rfl, _, _, rfl, D.out⟩
      · have hq9 : (q == 0) = false := by simpa using q0
        have hE : stepped o ⟨p, f1, f2, f3⟩ v = ⟨pc, f1, f2, f3⟩ := by simp only [stepped, HK.out, HON1.out, HON2.out, Int.toNat_natCast, HYY.out, HQ.out, ← HPC.out]; simp [q0]
        have D := Lib.hid (Done.mk (Q := ⟨pc, f1, f2, f3⟩) hE L1.out L2.out L3.out qM qR hB)
        clear hE
        go_wp2_with fail
        go_meet
        case rel => exact ⟨rfl, _, _, rfl, D.out⟩
    · obtain ⟨on2, hon2⟩ : ∃ a : Nat, o.f2 = (a : Int) := ⟨o.f2.toNat, by omega⟩
      have hb2 : on2 < 3 := by omega
      have hi2 : (on2 : Int) < 3 := by omega
      have HON2 := Lib.hid hon2
      rw [hon2] at qO
      clear hon2
      obtain ⟨y, hy⟩ : ∃ q, f2.getD on2 0 = q := ⟨_, rfl⟩
      have ry : V.cell? ⟨b, 5 + on2, none⟩ = some (.int .i64 y) := by rw [← hy]; exact qM.at (mc_at2 L1.out L2.out hb2)
      have HYY := Lib.hid hy
      clear hy
      have hE : stepped o ⟨p, f1, f2, f3⟩ v = ⟨pc, f1.set on1 y, f2, f3⟩ := by simp only [stepped, HK.out, HON1.out, HON2.out, Int.toNat_natCast, HYY.out, ← HPC.out]; simp
      have HE := Lib.hid hE
      clear hE hnums hr
      go_upto_region 16 with fail
      obtain ⟨V4, hV4⟩ : ∃ V4, V.drew = V4 := ⟨_, rfl⟩
      replace qM := qM.drew
      rw [hV4] at qM
      replace qO := qO.drew
      rw [hV4] at qO
      replace qR := qR.drew
      rw [hV4] at qR
      have hB := gbelow_drewN hB 1
      replace hB : Below b w V4 := by rw [← hV4]; exact hB
      have ry : V4.cell? ⟨b, 5 + on2, none⟩ = some (.int .i64 y) := by rw [← hV4]; exact ry
      have hzb : b + 3 ≤ V4.heap.size := qR.lt
      have s9 : V4.cell? ⟨b + 1, 1, none⟩ = some (.int .i64 (on1 : Int)) ∧ V4.cell? ⟨b + 1, 2, none⟩ = some (.int .i64 (on2 : Int)) := ⟨qO.at rfl, qO.at rfl⟩
      refine wp_region_held_drew (S := (fun w' => w'.cell? ⟨b + 1, 1, none⟩ = some (.int .i64 (on1 : Int)) ∧ w'.cell? ⟨b + 1, 2, none⟩ = some (.int .i64 (on2 : Int)))) (by kernel_rfl) (by rw [hV4]; exact s9) (fun hHeld => ?_)
      rw [hV4]
      clear hV4
      refine wpAnyH_take (i := 0) (v := ?vk80) (List.getElem?_toArray.trans rfl) (by kernel_rfl) (by kernel_rfl) (by kernel_rfl) (fun _ _ _ h => h) (Or.inl ⟨by rfl, ?yk80⟩) (by assumption) ?rk80
      case yk80 => (intro w hSw; (try dsimp only at hSw); go_simp; try with_reducible rfl)
      try simp only [Act.put, List.setIfInBounds_toArray, List.set_cons_zero, List.set_cons_succ]
      refine wpAnyH_take (i := 1) (v := ?vk81) (List.getElem?_toArray.trans rfl) (by kernel_rfl) (by kernel_rfl) (by kernel_rfl) (fun _ _ _ h => h) (Or.inl ⟨by rfl, ?yk81⟩) (by assumption) ?rk81
      case yk81 => (intro w hSw; (try dsimp only at hSw); go_simp; try with_reducible rfl)
      try simp only [Act.put, List.setIfInBounds_toArray, List.set_cons_zero, List.set_cons_succ]
      refine wpAnyH_take (i := 2) (v := ?vk82) (List.getElem?_toArray.trans rfl) (by kernel_rfl) (by kernel_rfl) (by kernel_rfl) (fun _ _ _ h => h) (Or.inl ⟨by rfl, ?yk82⟩) (by assumption) ?rk82
      case yk82 => (intro w hSw; (try dsimp only at hSw); go_simp; try with_reducible rfl)
      try simp only [Act.put, List.setIfInBounds_toArray, List.set_cons_zero, List.set_cons_succ]
      refine wpAnyH_take (i := 3) (v := ?vk83) (List.getElem?_toArray.trans rfl) (by kernel_rfl) (by kernel_rfl) (by kernel_rfl) (fun _ _ _ h => h) (Or.inl ⟨by rfl, ?yk83⟩) (by assumption) ?rk83
      case yk83 => (intro w hSw; (try dsimp only at hSw); go_simp; try with_reducible rfl)
      try simp only [Act.put, List.setIfInBounds_toArray, List.set_cons_zero, List.set_cons_succ]
      refine wpAnyH_take (i := 4) (v := ?vk84) (List.getElem?_toArray.trans rfl) (by kernel_rfl) (by kernel_rfl) (by kernel_rfl) (fun _ _ _ h => h) (Or.inl ⟨by rfl, ?yk84⟩) (by assumption) ?rk84
      case yk84 => (intro w hSw; (try dsimp only at hSw); go_simp; try with_reducible rfl)
      try simp only [Act.put, List.setIfInBounds_toArray, List.set_cons_zero, List.set_cons_succ]
      refine wpAnyH_take (i := 5) (v := ?vk85) (List.getElem?_toArray.trans rfl) (by kernel_rfl) (by kernel_rfl) (by kernel_rfl) (fun _ _ _ h => h) (Or.inl ⟨by rfl, ?yk85⟩) (by assumption) ?rk85
      case yk85 => (intro w hSw; (try dsimp only at hSw); go_simp; try with_reducible rfl)
      try simp only [Act.put, List.setIfInBounds_toArray, List.set_cons_zero, List.set_cons_succ]
      refine wpAnyH_take (i := 7) (v := ?vk87) (List.getElem?_toArray.trans rfl) (by kernel_rfl) (by kernel_rfl) (by kernel_rfl) (fun _ _ _ h => h) (Or.inl ⟨by rfl, ?yk87⟩) (by assumption) ?rk87
      case yk87 => (intro w hSw; (try dsimp only at hSw); go_simp; try with_reducible rfl)
      try simp only [Act.put, List.setIfInBounds_toArray, List.set_cons_zero, List.set_cons_succ]
      refine wpAnyH_ready (rs := [6]) (by kernel_rfl) (by simp) ?_
      refine AllReadyH.cons (List.getElem?_toArray.trans rfl) (fun K hK => ?_) AllReadyH.nil
      go_simp
      skip
      refine hK.out _ _ s9 (fun hHeld => ?_)
      clear hK K
      try simp only [Act.put, List.setIfInBounds_toArray, List.set_cons_zero, List.set_cons_succ]
      refine wpAnyH_take (i := 8) (v := ?vk88) (List.getElem?_toArray.trans rfl) (by kernel_rfl) (by kernel_rfl) (by kernel_rfl) (fun _ _ _ h => h) (Or.inl ⟨by rfl, ?yk88⟩) (by assumption) ?rk88
      case yk88 => (intro w hSw; (try dsimp only at hSw); go_simp; try with_reducible rfl)
      try simp only [Act.put, List.setIfInBounds_toArray, List.set_cons_zero, List.set_cons_succ]
      refine wpAnyH_ready (rs := [9]) (by kernel_rfl) (by simp) ?_
      refine AllReadyH.cons (List.getElem?_toArray.trans rfl) (fun K hK => ?_) AllReadyH.nil
      have c0 := qM.at (mc_at1 L1.out ha4)
      have d0 := qM.free (1 + on1)
      have qM5 := qM.set (1 + on1) (.int .i64 y)
      rw [mc_set1 L1.out ha4] at qM5
      have qO5 := qO.other (a := ⟨b, 1 + on1, none⟩) (.int .i64 y) (by dsimp only; omega)
      have qR5 := qR.other (a := ⟨b, 1 + on1, none⟩) (.int .i64 y) (by dsimp only; omega)
      have hB5 := hB.setCell (p := ⟨b, 1 + on1, none⟩) (Nat.le_refl _) (.int .i64 y)
      obtain ⟨V5, hV5⟩ : ∃ V5, V4.setCell ⟨b, 1 + on1, none⟩ (.int .i64 y) = V5 := ⟨_, rfl⟩
      rw [hV5] at qM5 qO5 qR5 hB5
      go_simp
      try rw [hV5]
      have s9 : V5.cell? ⟨b + 1, 1, none⟩ = some (.int .i64 (on1 : Int)) ∧ V5.cell? ⟨b + 1, 2, none⟩ = some (.int .i64 (on2 : Int)) := ⟨qO5.at rfl, qO5.at rfl⟩
      have D := Lib.hid (Done.mk HE.out (by rw [List.length_set]; exact L1.out) L2.out L3.out qM5 qR5 hB5)
      clear hV5 c0 d0
      refine hK.out _ _ s9 (fun hHeld => ?_)
      clear hK K
      try simp only [Act.put, List.setIfInBounds_toArray, List.set_cons_zero, List.set_cons_succ]
      refine wpAnyH_done (by kernel_rfl) ?_ _
      go_wp2_with fail
      go_meet
      case rel => exact ⟨rfl, _, _, rfl, D.out⟩
    · obtain ⟨on2, hon2⟩ : ∃ a : Nat, o.f2 = (a : Int) := ⟨o.f2.toNat, by omega⟩
      have hb2 : on2 < 3 := by omega
      have hi2 : (on2 : Int) < 3 := by omega
      have HON2 := Lib.hid hon2
      rw [hon2] at qO
      clear hon2
      obtain ⟨y, hy⟩ : ∃ q, f1.getD on1 0 = q := ⟨_, rfl⟩
      have ry : V.cell? ⟨b, 1 + on1, none⟩ = some (.int .i64 y) := by rw [← hy]; exact qM.at (mc_at1 L1.out ha4)
      have HYY := Lib.hid hy
      clear hy
      have hE : stepped o ⟨p, f1, f2, f3⟩ v = ⟨pc, f1, f2.set on2 y, f3⟩ := by simp only [stepped, HK.out, HON1.out, HON2.out, Int.toNat_natCast, HYY.out, ← HPC.out]; simp
      have HE := Lib.hid hE
      clear hE hnums hr
      go_upto_region 18 with fail
      obtain ⟨V4, hV4⟩ : ∃ V4, V.drew = V4 := ⟨_, rfl⟩
      replace qM := qM.drew
      rw [hV4] at qM
      replace qO := qO.drew
      rw [hV4] at qO
      replace qR := qR.drew
      rw [hV4] at qR
      have hB := gbelow_drewN hB 1
      replace hB : Below b w V4 := by rw [← hV4]; exact hB
      have ry : V4.cell? ⟨b, 1 + on1, none⟩ = some (.int .i64 y) := by rw [← hV4]; exact ry
      have hzb : b + 3 ≤ V4.heap.size := qR.lt
      have s9 : V4.cell? ⟨b + 1, 1, none⟩ = some (.int .i64 (on1 : Int)) ∧ V4.cell? ⟨b + 1, 2, none⟩ = some (.int .i64 (on2 : Int)) := ⟨qO.at rfl, qO.at rfl⟩
      refine wp_region_held_drew (S := (fun w' => w'.cell? ⟨b + 1, 1, none⟩ = some (.int .i64 (on1 : Int)) ∧ w'.cell? ⟨b + 1, 2, none⟩ = some (.int .i64 (on2 : Int)))) (by kernel_rfl) (by rw [hV4]; exact s9) (fun hHeld => ?_)
      rw [hV4]
      clear hV4
      refine wpAnyH_take (i := 0) (v := ?vk90) (List.getElem?_toArray.trans rfl) (by kernel_rfl) (by kernel_rfl) (by kernel_rfl) (fun _ _ _ h => h) (Or.inl ⟨by rfl, ?yk90⟩) (by assumption) ?rk90
      case yk90 => (intro w hSw; (try dsimp only at hSw); go_simp; try with_reducible rfl)
      try simp only [Act.put, List.setIfInBounds_toArray, List.set_cons_zero, List.set_cons_succ]
      refine wpAnyH_take (i := 1) (v := ?vk91) (List.getElem?_toArray.trans rfl) (by kernel_rfl) (by kernel_rfl) (by kernel_rfl) (fun _ _ _ h => h) (Or.inl ⟨by rfl, ?yk91⟩) (by assumption) ?rk91
      case yk91 => (intro w hSw; (try dsimp only at hSw); go_simp; try with_reducible rfl)
      try simp only [Act.put, List.setIfInBounds_toArray, List.set_cons_zero, List.set_cons_succ]
      refine wpAnyH_take (i := 2) (v := ?vk92) (List.getElem?_toArray.trans rfl) (by kernel_rfl) (by kernel_rfl) (by kernel_rfl) (fun _ _ _ h => h) (Or.inl ⟨by rfl, ?yk92⟩) (by assumption) ?rk92
      case yk92 => (intro w hSw; (try dsimp only at hSw); go_simp; try with_reducible rfl)
      try simp only [Act.put, List.setIfInBounds_toArray, List.set_cons_zero, List.set_cons_succ]
      refine wpAnyH_take (i := 3) (v := ?vk93) (List.getElem?_toArray.trans rfl) (by kernel_rfl) (by kernel_rfl) (by kernel_rfl) (fun _ _ _ h => h) (Or.inl ⟨by rfl, ?yk93⟩) (by assumption) ?rk93
      case yk93 => (intro w hSw; (try dsimp only at hSw); go_simp; try with_reducible rfl)
      try simp only [Act.put, List.setIfInBounds_toArray, List.set_cons_zero, List.set_cons_succ]
      refine wpAnyH_take (i := 4) (v := ?vk94) (List.getElem?_toArray.trans rfl) (by kernel_rfl) (by kernel_rfl) (by kernel_rfl) (fun _ _ _ h => h) (Or.inl ⟨by rfl, ?yk94⟩) (by assumption) ?rk94
      case yk94 => (intro w hSw; (try dsimp only at hSw); go_simp; try with_reducible rfl)
      try simp only [Act.put, List.setIfInBounds_toArray, List.set_cons_zero, List.set_cons_succ]
      refine wpAnyH_take (i := 5) (v := ?vk95) (List.getElem?_toArray.trans rfl) (by kernel_rfl) (by kernel_rfl) (by kernel_rfl) (fun _ _ _ h => h) (Or.inl ⟨by rfl, ?yk95⟩) (by assumption) ?rk95
      case yk95 => (intro w hSw; (try dsimp only at hSw); go_simp; try with_reducible rfl)
      try simp only [Act.put, List.setIfInBounds_toArray, List.set_cons_zero, List.set_cons_succ]
      refine wpAnyH_take (i := 7) (v := ?vk97) (List.getElem?_toArray.trans rfl) (by kernel_rfl) (by kernel_rfl) (by kernel_rfl) (fun _ _ _ h => h) (Or.inl ⟨by rfl, ?yk97⟩) (by assumption) ?rk97
      case yk97 => (intro w hSw; (try dsimp only at hSw); go_simp; try with_reducible rfl)
      try simp only [Act.put, List.setIfInBounds_toArray, List.set_cons_zero, List.set_cons_succ]
      refine wpAnyH_ready (rs := [6]) (by kernel_rfl) (by simp) ?_
      refine AllReadyH.cons (List.getElem?_toArray.trans rfl) (fun K hK => ?_) AllReadyH.nil
      go_simp
      skip
      refine hK.out _ _ s9 (fun hHeld => ?_)
      clear hK K
      try simp only [Act.put, List.setIfInBounds_toArray, List.set_cons_zero, List.set_cons_succ]
      refine wpAnyH_take (i := 8) (v := ?vk98) (List.getElem?_toArray.trans rfl) (by kernel_rfl) (by kernel_rfl) (by kernel_rfl) (fun _ _ _ h => h) (Or.inl ⟨by rfl, ?yk98⟩) (by assumption) ?rk98
      case yk98 => (intro w hSw; (try dsimp only at hSw); go_simp; try with_reducible rfl)
      try simp only [Act.put, List.setIfInBounds_toArray, List.set_cons_zero, List.set_cons_succ]
      refine wpAnyH_ready (rs := [9]) (by kernel_rfl) (by simp) ?_
      refine AllReadyH.cons (List.getElem?_toArray.trans rfl) (fun K hK => ?_) AllReadyH.nil
      have c0 := qM.at (mc_at2 L1.out L2.out hb2)
      have d0 := qM.free (5 + on2)
      have qM5 := qM.set (5 + on2) (.int .i64 y)
      rw [mc_set2 L1.out L2.out hb2] at qM5
      have qO5 := qO.other (a := ⟨b, 5 + on2, none⟩) (.int .i64 y) (by dsimp only; omega)
      have qR5 := qR.other (a := ⟨b, 5 + on2, none⟩) (.int .i64 y) (by dsimp only; omega)
      have hB5 := hB.setCell (p := ⟨b, 5 + on2, none⟩) (Nat.le_refl _) (.int .i64 y)
      obtain ⟨V5, hV5⟩ : ∃ V5, V4.setCell ⟨b, 5 + on2, none⟩ (.int .i64 y) = V5 := ⟨_, rfl⟩
      rw [hV5] at qM5 qO5 qR5 hB5
      go_simp
      try rw [hV5]
      have s9 : V5.cell? ⟨b + 1, 1, none⟩ = some (.int .i64 (on1 : Int)) ∧ V5.cell? ⟨b + 1, 2, none⟩ = some (.int .i64 (on2 : Int)) := ⟨qO5.at rfl, qO5.at rfl⟩
      have D := Lib.hid (Done.mk HE.out L1.out (by rw [List.length_set]; exact L2.out) L3.out qM5 qR5 hB5)
      clear hV5 c0 d0
      refine hK.out _ _ s9 (fun hHeld => ?_)
      clear hK K
      try simp only [Act.put, List.setIfInBounds_toArray, List.set_cons_zero, List.set_cons_succ]
      refine wpAnyH_done (by kernel_rfl) ?_ _
      go_wp2_with fail
      go_meet
      case rel => exact ⟨rfl, _, _, rfl, D.out⟩
  case rest =>
    obtain ⟨rfl, V5, Q, rfl, D⟩ := hcut
    obtain ⟨q, g1, g2, g3⟩ := Q
    obtain ⟨e0, e1, e2, e3, qM, qR, hB⟩ := D
    dsimp only at e1 e2 e3 qM
    obtain ⟨x0, x1, x2, x3, rfl⟩ := four e1
    obtain ⟨y0, y1, y2, rfl⟩ := three e2
    obtain ⟨z0, z1, z2, z3, rfl⟩ := four e3
    have HE := Lib.hid e0
    clear e0 e1 e2 e3 hr
    have c0 : V5.cell? ⟨b, 0, none⟩ = some (.int .i64 q) := qM.at rfl
    have t0 : V5.cell? ⟨b + 2, 0, none⟩ = some (.int .i64 0) := qR.at rfl
    have u0 := qR.free 0
    have c1 : V5.cell? ⟨b, 1, none⟩ = some (.int .i64 x0) := qM.at rfl
    have t1 : V5.cell? ⟨b + 2, 1, none⟩ = some (.int .i64 0) := qR.at rfl
    have u1 := qR.free 1
    have c2 : V5.cell? ⟨b, 2, none⟩ = some (.int .i64 x1) := qM.at rfl
    have t2 : V5.cell? ⟨b + 2, 2, none⟩ = some (.int .i64 0) := qR.at rfl
    have u2 := qR.free 2
    have c3 : V5.cell? ⟨b, 3, none⟩ = some (.int .i64 x2) := qM.at rfl
    have t3 : V5.cell? ⟨b + 2, 3, none⟩ = some (.int .i64 0) := qR.at rfl
    have u3 := qR.free 3
    have c4 : V5.cell? ⟨b, 4, none⟩ = some (.int .i64 x3) := qM.at rfl
    have t4 : V5.cell? ⟨b + 2, 4, none⟩ = some (.int .i64 0) := qR.at rfl
    have u4 := qR.free 4
    have c5 : V5.cell? ⟨b, 5, none⟩ = some (.int .i64 y0) := qM.at rfl
    have t5 : V5.cell? ⟨b + 2, 5, none⟩ = some (.int .i64 0) := qR.at rfl
    have u5 := qR.free 5
    have c6 : V5.cell? ⟨b, 6, none⟩ = some (.int .i64 y1) := qM.at rfl
    have t6 : V5.cell? ⟨b + 2, 6, none⟩ = some (.int .i64 0) := qR.at rfl
    have u6 := qR.free 6
    have c7 : V5.cell? ⟨b, 7, none⟩ = some (.int .i64 y2) := qM.at rfl
    have t7 : V5.cell? ⟨b + 2, 7, none⟩ = some (.int .i64 0) := qR.at rfl
    have u7 := qR.free 7
    have c8 : V5.cell? ⟨b, 8, none⟩ = some (.int .i64 z0) := qM.at rfl
    have t8 : V5.cell? ⟨b + 2, 8, none⟩ = some (.int .i64 0) := qR.at rfl
    have u8 := qR.free 8
    have c9 : V5.cell? ⟨b, 9, none⟩ = some (.int .i64 z1) := qM.at rfl
    have t9 : V5.cell? ⟨b + 2, 9, none⟩ = some (.int .i64 0) := qR.at rfl
    have u9 := qR.free 9
    have c10 : V5.cell? ⟨b, 10, none⟩ = some (.int .i64 z2) := qM.at rfl
    have t10 : V5.cell? ⟨b + 2, 10, none⟩ = some (.int .i64 0) := qR.at rfl
    have u10 := qR.free 10
    have c11 : V5.cell? ⟨b, 11, none⟩ = some (.int .i64 z3) := qM.at rfl
    have t11 : V5.cell? ⟨b + 2, 11, none⟩ = some (.int .i64 0) := qR.at rfl
    have u11 := qR.free 11
    obtain ⟨VF, hVF, qF, _, _, hF⟩ := put12 (w := w) (b := b + 2) (v0 := .int .i64 q) (v1 := .int .i64 x0) (v2 := .int .i64 x1) (v3 := .int .i64 x2) (v4 := .int .i64 x3) (v5 := .int .i64 y0) (v6 := .int .i64 y1) (v7 := .int .i64 y2) (v8 := .int .i64 z0) (v9 := .int .i64 z1) (v10 := .int .i64 z2) (v11 := .int .i64 z3) qR (by omega) hB
    have G0 : VF.cell? ⟨b + 2, 0, none⟩ = some (.int .i64 q) := qF.at rfl
    have G1 : VF.cell? ⟨b + 2, 1, none⟩ = some (.int .i64 x0) := qF.at rfl
    have G2 : VF.cell? ⟨b + 2, 2, none⟩ = some (.int .i64 x1) := qF.at rfl
    have G3 : VF.cell? ⟨b + 2, 3, none⟩ = some (.int .i64 x2) := qF.at rfl
    have G4 : VF.cell? ⟨b + 2, 4, none⟩ = some (.int .i64 x3) := qF.at rfl
    have G5 : VF.cell? ⟨b + 2, 5, none⟩ = some (.int .i64 y0) := qF.at rfl
    have G6 : VF.cell? ⟨b + 2, 6, none⟩ = some (.int .i64 y1) := qF.at rfl
    have G7 : VF.cell? ⟨b + 2, 7, none⟩ = some (.int .i64 y2) := qF.at rfl
    have G8 : VF.cell? ⟨b + 2, 8, none⟩ = some (.int .i64 z0) := qF.at rfl
    have G9 : VF.cell? ⟨b + 2, 9, none⟩ = some (.int .i64 z1) := qF.at rfl
    have G10 : VF.cell? ⟨b + 2, 10, none⟩ = some (.int .i64 z2) := qF.at rfl
    have G11 : VF.cell? ⟨b + 2, 11, none⟩ = some (.int .i64 z3) := qF.at rfl
    have HVF := Lib.hid hVF
    have HF := Lib.hid hF
    clear hVF qF qM qR hB hF
    go_wp2
    rw [HVF.out]
    refine bodyPost_ret (v := .agg #[.int .i64 q, .int .i64 x0, .int .i64 x1, .int .i64 x2, .int .i64 x3, .int .i64 y0, .int .i64 y1, .int .i64 y2, .int .i64 z0, .int .i64 z1, .int .i64 z2, .int .i64 z3]) (by simp [results, Try.results43, go_sem, G0, G1, G2, G3, G4, G5, G6, G7, G8, G9, G10, G11]) rfl ?_
    exact ⟨q, x0, x1, x2, x3, y0, y1, y2, z0, z1, z2, z3, HE.out, rfl, by rw [HB.out]; exact HF.out⟩
end Go.Proofs.Ytbohkohccnieiaa.Mach
