/-
  The machine, the program: what the step that comes next needs; WantOf, which recovers from a panic.
  Conditions: the rows lie in memory, with 2^20 numbers at most.
-/
import Derived.Test.YtbohkohccnieiaaMachA
import Derived.Test.YtbohkohccnieiaaMachLaw
namespace Go.Proofs.Ytbohkohccnieiaa.Mach
set_option linter.unusedVariables false
open Go Go.RowKit Go.Proofs.Ytbohkohccnieiaa.Mem Go.Proofs.Ytbohkohccnieiaa.Gen Go.Proofs.Ytbohkohccnieiaa.Scripts

def wantedO (o : TOp) (f : List Int) : TWant := if asksB o.f0 = true then (if o.f0 = 1 then ⟨o.f0, ⟨o.f2, o.f3, f.getD o.f1.toNat 0 % 100⟩⟩ else ⟨o.f0, ⟨0, 0, 0⟩⟩) else noWant
theorem want_can {l : List TOp} {P : TState} (h : canB l P = true) : wantOf l P = wantedO (opAt l P) P.f1 := by
  unfold wantOf wantedO
  rw [h]
  simp

set_option maxHeartbeats 4000000 in
set_option maxRecDepth 100000 in
theorem wanted_impl (w : World) (p r0 r1 r2 r3 s0 s1 s2 n0 n1 n2 n3 : Int) (o : TOp) (hr : ∀ i, 0 ≤ [r0, r1, r2, r3].getD i 0 ∧ [r0, r1, r2, r3].getD i 0 ≤ 999) (hok : okO o = true) :
    Calls Try.prog 47 #[.agg #[.int .i64 p, .int .i64 r0, .int .i64 r1, .int .i64 r2, .int .i64 r3, .int .i64 s0, .int .i64 s1, .int .i64 s2, .int .i64 n0, .int .i64 n1, .int .i64 n2, .int .i64 n3], .agg #[.int .i64 o.f0, .int .i64 o.f1, .int .i64 o.f2, .int .i64 o.f3]] w fun e w' => e = .returned (.agg #[.int .i64 (wantedO o [r0, r1, r2, r3]).f0, .int .i64 (wantedO o [r0, r1, r2, r3]).f1.f0, .int .i64 (wantedO o [r0, r1, r2, r3]).f1.f1, .int .i64 (wantedO o [r0, r1, r2, r3]).f1.f2]) ∧ Below w.heap.size w w' := by
  obtain ⟨W, hWW⟩ : ∃ Z, ((w.alloc (.cells #[.int .i64 p, .int .i64 r0, .int .i64 r1, .int .i64 r2, .int .i64 r3, .int .i64 s0, .int .i64 s1, .int .i64 s2, .int .i64 n0, .int .i64 n1, .int .i64 n2, .int .i64 n3] 67)).alloc (.cells #[.int .i64 o.f0, .int .i64 o.f1, .int .i64 o.f2, .int .i64 o.f3] 71)).alloc (.cells #[.int .i64 0, .int .i64 0, .int .i64 0, .int .i64 0] 34) = Z := ⟨_, rfl⟩
  have qM : Blk 67 w.heap.size (mc p [r0, r1, r2, r3] [s0, s1, s2] [n0, n1, n2, n3]) W := by rw [← hWW]; exact ((Blk.new _ [.int .i64 p, .int .i64 r0, .int .i64 r1, .int .i64 r2, .int .i64 r3, .int .i64 s0, .int .i64 s1, .int .i64 s2, .int .i64 n0, .int .i64 n1, .int .i64 n2, .int .i64 n3] w).alloc _).alloc _
  have qO : Blk 71 (w.heap.size + 1) [.int .i64 o.f0, .int .i64 o.f1, .int .i64 o.f2, .int .i64 o.f3] W := by
    have := Blk.new 71 [.int .i64 o.f0, .int .i64 o.f1, .int .i64 o.f2, .int .i64 o.f3] (w.alloc (.cells #[.int .i64 p, .int .i64 r0, .int .i64 r1, .int .i64 r2, .int .i64 r3, .int .i64 s0, .int .i64 s1, .int .i64 s2, .int .i64 n0, .int .i64 n1, .int .i64 n2, .int .i64 n3] 67))
    rw [gsize_alloc] at this
    rw [← hWW]; exact this.alloc _
  have qR : Blk 34 (w.heap.size + 2) [.int .i64 0, .int .i64 0, .int .i64 0, .int .i64 0] W := by
    have := Blk.new 34 [.int .i64 0, .int .i64 0, .int .i64 0, .int .i64 0] ((w.alloc (.cells #[.int .i64 p, .int .i64 r0, .int .i64 r1, .int .i64 r2, .int .i64 r3, .int .i64 s0, .int .i64 s1, .int .i64 s2, .int .i64 n0, .int .i64 n1, .int .i64 n2, .int .i64 n3] 67)).alloc (.cells #[.int .i64 o.f0, .int .i64 o.f1, .int .i64 o.f2, .int .i64 o.f3] 71))
    rw [gsize_alloc, gsize_alloc] at this
    rw [← hWW]; exact this
  have hB : Below w.heap.size w W := by rw [← hWW]; exact (((Below.refl _ _).alloc (Nat.le_refl _) _).alloc (by rw [gsize_alloc]; omega) _).alloc (by rw [gsize_alloc, gsize_alloc]; omega) _
  have hz : w.heap.size + 3 ≤ W.heap.size := qR.lt
  have hnums := nums_at hok
  obtain ⟨k, hk⟩ : ∃ k, o.f0 = k := ⟨_, rfl⟩
  rw [hk] at qO
  simp only [hk] at hnums
  obtain ⟨f1, hf1⟩ : ∃ f, [r0, r1, r2, r3] = f := ⟨_, rfl⟩
  have L1 : Hid (f1.length = 4) := by rw [← hf1]; exact rfl
  rw [hf1] at qM hr ⊢
  obtain ⟨Q, hQ⟩ : ∃ Q, wantedO o f1 = Q := ⟨_, rfl⟩
  rw [hQ]
  have HQ := Lib.hid hQ
  have HK := Lib.hid hk
  have hk0 : W.cell? ⟨w.heap.size + 1, 0, none⟩ = some (.int .i64 k) := qO.at rfl
  by_cases k1 : k = 1
  · have n1 := hnums.2.1 k1
    obtain ⟨on1, hon1⟩ : ∃ a : Nat, o.f1 = (a : Int) := ⟨o.f1.toNat, by omega⟩
    have ha4 : on1 < 4 := by omega
    have hai : (on1 : Int) < 4 := by omega
    obtain ⟨y, hy⟩ : ∃ q, f1.getD on1 0 = q := ⟨_, rfl⟩
    have bdy : 0 ≤ y ∧ y ≤ 999 := by rw [← hy]; exact hr on1
    obtain ⟨m, hm⟩ : ∃ m, y % 100 = m := ⟨_, rfl⟩
    have hmod := fun W => mod100 y W (by omega)
    rw [hm] at hmod
    have hQ2 : Q = ⟨1, ⟨o.f2, o.f3, m⟩⟩ := by
      rw [← hQ]
      unfold wantedO
      rw [hk, k1, hon1, Int.toNat_natCast, hy, hm, if_pos (by decide), if_pos rfl]
    subst hQ2
    dsimp only
    subst k1
    rw [hon1] at qO
    have hq1 : W.cell? ⟨w.heap.size, 1 + on1, none⟩ = some (.int .i64 y) := by rw [← hy]; exact qM.at (mc_at1 L1.out ha4)
    have HON := Lib.hid hon1
    have HW := Lib.hid hWW
    clear hWW HQ HK hQ hk hon1 hy hm hnums hr hok hf1 n1
    go_enter Try.func47, Try.ntmps47
    go_upto_region 1 with fail
    try rw [HW.out]
    obtain ⟨b, hb⟩ : ∃ b, w.heap.size = b := ⟨_, rfl⟩
    simp only [hb] at qM qO qR hB hz hk0 hq1 ⊢
    try simp only [HON.out]
    have HB := Lib.hid hb
    clear hb
    go_upto_region 2 with fail
    obtain ⟨V4, hV4⟩ : ∃ V4, W.drew = V4 := ⟨_, rfl⟩
    replace qM := qM.drew
    replace qO := qO.drew
    replace qR := qR.drew
    rw [hV4] at qM qO qR
    have hB := gbelow_drewN hB 1
    replace hB : Below b w V4 := by rw [← hV4]; exact hB
    have hy2 : V4.cell? ⟨b, 1 + on1, none⟩ = some (.int .i64 y) := by rw [← hV4]; exact hq1
    have hzb : b + 3 ≤ V4.heap.size := qR.lt
    have s9 : V4.cell? ⟨b + 1, 0, none⟩ = some (.int .i64 1) ∧ V4.cell? ⟨b + 1, 1, none⟩ = some (.int .i64 (on1 : Int)) ∧ V4.cell? ⟨b + 1, 2, none⟩ = some (.int .i64 o.f2) ∧ V4.cell? ⟨b + 1, 3, none⟩ = some (.int .i64 o.f3) ∧ V4.cell? ⟨b, 1 + on1, none⟩ = some (.int .i64 y) := ⟨qO.at rfl, qO.at rfl, qO.at rfl, qO.at rfl, hy2⟩
    have z0 : V4.cell? ⟨b + 2, 0, none⟩ = some (.int .i64 0) := qR.at rfl
    have f0 := qR.free 0
    have z1 : V4.cell? ⟨b + 2, 1, none⟩ = some (.int .i64 0) := qR.at rfl
    have f1 := qR.free 1
    have z2 : V4.cell? ⟨b + 2, 2, none⟩ = some (.int .i64 0) := qR.at rfl
    have f2 := qR.free 2
    have z3 : V4.cell? ⟨b + 2, 3, none⟩ = some (.int .i64 0) := qR.at rfl
    have f3 := qR.free 3
    refine wp_region_held_drew (S := (fun w' => w'.cell? ⟨b + 1, 0, none⟩ = some (.int .i64 1) ∧ w'.cell? ⟨b + 1, 1, none⟩ = some (.int .i64 (on1 : Int)) ∧ w'.cell? ⟨b + 1, 2, none⟩ = some (.int .i64 o.f2) ∧ w'.cell? ⟨b + 1, 3, none⟩ = some (.int .i64 o.f3) ∧ w'.cell? ⟨b, 1 + on1, none⟩ = some (.int .i64 y))) (by kernel_rfl) (by rw [hV4]; exact s9) (fun hHeld => ?_)
    rw [hV4]
    clear hV4
    refine wpAnyH_take (i := 0) (v := ?vw0) (List.getElem?_toArray.trans rfl) (by kernel_rfl) (by kernel_rfl) (by kernel_rfl) (fun _ _ _ h => h) (Or.inl ⟨by rfl, ?yw0⟩) (by assumption) ?rw0
    case yw0 => (intro w hSw; (try dsimp only at hSw); go_simp; try with_reducible rfl)
    try simp only [Act.put, List.setIfInBounds_toArray, List.set_cons_zero, List.set_cons_succ]
    refine wpAnyH_take (i := 1) (v := ?vw1) (List.getElem?_toArray.trans rfl) (by kernel_rfl) (by kernel_rfl) (by kernel_rfl) (fun _ _ _ h => h) (Or.inl ⟨by rfl, ?yw1⟩) (by assumption) ?rw1
    case yw1 => (intro w hSw; (try dsimp only at hSw); go_simp; try with_reducible rfl)
    try simp only [Act.put, List.setIfInBounds_toArray, List.set_cons_zero, List.set_cons_succ]
    refine wpAnyH_take (i := 2) (v := ?vw2) (List.getElem?_toArray.trans rfl) (by kernel_rfl) (by kernel_rfl) (by kernel_rfl) (fun _ _ _ h => h) (Or.inl ⟨by rfl, ?yw2⟩) (by assumption) ?rw2
    case yw2 => (intro w hSw; (try dsimp only at hSw); go_simp; try with_reducible rfl)
    try simp only [Act.put, List.setIfInBounds_toArray, List.set_cons_zero, List.set_cons_succ]
    refine wpAnyH_take (i := 3) (v := ?vw3) (List.getElem?_toArray.trans rfl) (by kernel_rfl) (by kernel_rfl) (by kernel_rfl) (fun _ _ _ h => h) (Or.inl ⟨by rfl, ?yw3⟩) (by assumption) ?rw3
    case yw3 => (intro w hSw; (try dsimp only at hSw); go_simp; try with_reducible rfl)
    try simp only [Act.put, List.setIfInBounds_toArray, List.set_cons_zero, List.set_cons_succ]
    refine wpAnyH_take (i := 4) (v := ?vw4) (List.getElem?_toArray.trans rfl) (by kernel_rfl) (by kernel_rfl) (by kernel_rfl) (fun _ _ _ h => h) (Or.inl ⟨by rfl, ?yw4⟩) (by assumption) ?rw4
    case yw4 => (intro w hSw; (try dsimp only at hSw); go_simp; try with_reducible rfl)
    try simp only [Act.put, List.setIfInBounds_toArray, List.set_cons_zero, List.set_cons_succ]
    refine wpAnyH_take (i := 5) (v := ?vw5) (List.getElem?_toArray.trans rfl) (by kernel_rfl) (by kernel_rfl) (by kernel_rfl) (fun _ _ _ h => h) (Or.inl ⟨by rfl, ?yw5⟩) (by assumption) ?rw5
    case yw5 => (intro w hSw; (try dsimp only at hSw); go_simp; try with_reducible rfl)
    try simp only [Act.put, List.setIfInBounds_toArray, List.set_cons_zero, List.set_cons_succ]
    refine wpAnyH_take (i := 6) (v := ?vw6) (List.getElem?_toArray.trans rfl) (by kernel_rfl) (by kernel_rfl) (by kernel_rfl) (fun _ _ _ h => h) (Or.inl ⟨by rfl, ?yw6⟩) (by assumption) ?rw6
    case yw6 => (intro w hSw; (try dsimp only at hSw); go_simp; try with_reducible rfl)
    try simp only [Act.put, List.setIfInBounds_toArray, List.set_cons_zero, List.set_cons_succ]
    refine wpAnyH_take (i := 7) (v := ?vw7) (List.getElem?_toArray.trans rfl) (by kernel_rfl) (by kernel_rfl) (by kernel_rfl) (fun _ _ _ h => h) (Or.inl ⟨by rfl, ?yw7⟩) (by assumption) ?rw7
    case yw7 => (intro w hSw; (try dsimp only at hSw); go_simp; try with_reducible rfl)
    try simp only [Act.put, List.setIfInBounds_toArray, List.set_cons_zero, List.set_cons_succ]
    refine wpAnyH_take (i := 8) (v := ?vw8) (List.getElem?_toArray.trans rfl) (by kernel_rfl) (by kernel_rfl) (by kernel_rfl) (fun _ _ _ h => h) (Or.inl ⟨by rfl, ?yw8⟩) (by assumption) ?rw8
    case yw8 => (intro w hSw; (try dsimp only at hSw); go_simp; try with_reducible rfl)
    try simp only [Act.put, List.setIfInBounds_toArray, List.set_cons_zero, List.set_cons_succ]
    refine wpAnyH_take (i := 9) (v := ?vw9) (List.getElem?_toArray.trans rfl) (by kernel_rfl) (by kernel_rfl) (by kernel_rfl) (fun _ _ _ h => h) (Or.inl ⟨by rfl, ?yw9⟩) (by assumption) ?rw9
    case yw9 => (intro w hSw; (try dsimp only at hSw); go_simp; try with_reducible rfl)
    try simp only [Act.put, List.setIfInBounds_toArray, List.set_cons_zero, List.set_cons_succ]
    refine wpAnyH_take (i := 10) (v := ?vw10) (List.getElem?_toArray.trans rfl) (by kernel_rfl) (by kernel_rfl) (by kernel_rfl) (fun _ _ _ h => h) (Or.inl ⟨by rfl, ?yw10⟩) (by assumption) ?rw10
    case yw10 => (intro w hSw; (try dsimp only at hSw); go_simp; try with_reducible rfl)
    try simp only [Act.put, List.setIfInBounds_toArray, List.set_cons_zero, List.set_cons_succ]
    refine wpAnyH_ready (rs := [11]) (by kernel_rfl) (by simp) ?_
    refine AllReadyH.cons (List.getElem?_toArray.trans rfl) (fun K hK => ?_) AllReadyH.nil
    go_simp
    go_at_call 75
    refine (hmod _).mono ?_
    rintro e u11 ⟨rfl, rfl⟩
    refine hK.out _ _ s9 (fun hHeld => ?_)
    clear hK K
    try simp only [Act.put, List.setIfInBounds_toArray, List.set_cons_zero, List.set_cons_succ]
    refine wpAnyH_take (i := 12) (v := ?vw12) (List.getElem?_toArray.trans rfl) (by kernel_rfl) (by kernel_rfl) (by kernel_rfl) (fun _ _ _ h => h) (Or.inl ⟨by rfl, ?yw12⟩) (by assumption) ?rw12
    case yw12 => (intro w hSw; (try dsimp only at hSw); go_simp; try with_reducible rfl)
    try simp only [Act.put, List.setIfInBounds_toArray, List.set_cons_zero, List.set_cons_succ]
    refine wpAnyH_take (i := 13) (v := ?vw13) (List.getElem?_toArray.trans rfl) (by kernel_rfl) (by kernel_rfl) (by kernel_rfl) (fun _ _ _ h => h) (Or.inl ⟨by rfl, ?yw13⟩) (by assumption) ?rw13
    case yw13 => (intro w hSw; (try dsimp only at hSw); go_simp; try with_reducible rfl)
    try simp only [Act.put, List.setIfInBounds_toArray, List.set_cons_zero, List.set_cons_succ]
    refine wpAnyH_ready (rs := [14]) (by kernel_rfl) (by simp) ?_
    refine AllReadyH.cons (List.getElem?_toArray.trans rfl) (fun K hK => ?_) AllReadyH.nil
    obtain ⟨V, hV⟩ : ∃ V, ((((V4.setCell ⟨b + 2, 0, none⟩ (.int .i64 1)).setCell ⟨b + 2, 1, none⟩ (.int .i64 o.f2)).setCell ⟨b + 2, 2, none⟩ (.int .i64 o.f3)).setCell ⟨b + 2, 3, none⟩ (.int .i64 m)) = V := ⟨_, rfl⟩
    have qF := ((((qR.set 0 (.int .i64 1)).set 1 (.int .i64 o.f2)).set 2 (.int .i64 o.f3)).set 3 (.int .i64 m))
    simp only [List.set_cons_zero, List.set_cons_succ] at qF
    have hF := ((((hB.setCell (p := ⟨b + 2, 0, none⟩) (Nat.le_add_right _ _) (.int .i64 1)).setCell (p := ⟨b + 2, 1, none⟩) (Nat.le_add_right _ _) (.int .i64 o.f2)).setCell (p := ⟨b + 2, 2, none⟩) (Nat.le_add_right _ _) (.int .i64 o.f3)).setCell (p := ⟨b + 2, 3, none⟩) (Nat.le_add_right _ _) (.int .i64 m))
    rw [hV] at qF hF
    have hkp : ∀ t, t ≠ b + 2 → V.heap[t]? = V4.heap[t]? := fun t hne => by rw [← hV, heap_setCell_other _ _ t _ (by dsimp only; omega), heap_setCell_other _ _ t _ (by dsimp only; omega), heap_setCell_other _ _ t _ (by dsimp only; omega), heap_setCell_other _ _ t _ (by dsimp only; omega)]
    go_simp
    try rw [hV]
    have s9 : V.cell? ⟨b + 1, 0, none⟩ = some (.int .i64 1) ∧ V.cell? ⟨b + 1, 1, none⟩ = some (.int .i64 (on1 : Int)) ∧ V.cell? ⟨b + 1, 2, none⟩ = some (.int .i64 o.f2) ∧ V.cell? ⟨b + 1, 3, none⟩ = some (.int .i64 o.f3) ∧ V.cell? ⟨b, 1 + on1, none⟩ = some (.int .i64 y) := ⟨(Mem.cell_of_heap (hkp _ (by omega))).trans s9.1, (Mem.cell_of_heap (hkp _ (by omega))).trans s9.2.1, (Mem.cell_of_heap (hkp _ (by omega))).trans s9.2.2.1, (Mem.cell_of_heap (hkp _ (by omega))).trans s9.2.2.2.1, (Mem.cell_of_heap (hkp _ (by omega))).trans s9.2.2.2.2⟩
    refine hK.out _ _ s9 (fun hHeld => ?_)
    clear hK K
    try simp only [Act.put, List.setIfInBounds_toArray, List.set_cons_zero, List.set_cons_succ]
    refine wpAnyH_done (by kernel_rfl) ?_ _
    have g0 : V.cell? ⟨b + 2, 0, none⟩ = some (.int .i64 1) := qF.at rfl
    have g1 : V.cell? ⟨b + 2, 1, none⟩ = some (.int .i64 o.f2) := qF.at rfl
    have g2 : V.cell? ⟨b + 2, 2, none⟩ = some (.int .i64 o.f3) := qF.at rfl
    have g3 : V.cell? ⟨b + 2, 3, none⟩ = some (.int .i64 m) := qF.at rfl
    have HF := Lib.hid hF
    clear hV qF qM qO qR hB hF
    go_wp2
    refine bodyPost_ret (v := .agg #[.int .i64 1, .int .i64 o.f2, .int .i64 o.f3, .int .i64 m]) (by simp [results, Try.results47, go_sem, g0, g1, g2, g3]) rfl ?_
    exact ⟨rfl, by rw [HB.out]; exact HF.out⟩
  · have k1' : (k == 1) = false := by simpa using k1
    have hasks := fun W => asks_impl k W
    obtain ⟨ab, hab⟩ : ∃ a, asksB k = a := ⟨_, rfl⟩
    rw [hab] at hasks
    have hQ2 : Q = ⟨if ab = true then k else 0, ⟨0, 0, 0⟩⟩ := by
      rw [← hQ]
      unfold wantedO
      rw [hk, hab, if_neg k1]
      cases ab <;> rfl
    clear hQ HQ hk hab hnums hr hok hf1
    cases ab with
    | true =>
      rw [if_pos rfl] at hQ2
      subst hQ2
      dsimp only
      have z0 : W.cell? ⟨w.heap.size + 2, 0, none⟩ = some (.int .i64 0) := qR.at rfl
      have f0 := qR.free 0
      have z1 : W.cell? ⟨w.heap.size + 2, 1, none⟩ = some (.int .i64 0) := qR.at rfl
      have f1 := qR.free 1
      have z2 : W.cell? ⟨w.heap.size + 2, 2, none⟩ = some (.int .i64 0) := qR.at rfl
      have f2 := qR.free 2
      have z3 : W.cell? ⟨w.heap.size + 2, 3, none⟩ = some (.int .i64 0) := qR.at rfl
      have f3 := qR.free 3
      obtain ⟨V, hV⟩ : ∃ V, ((((W.setCell ⟨w.heap.size + 2, 0, none⟩ (.int .i64 k)).setCell ⟨w.heap.size + 2, 1, none⟩ (.int .i64 0)).setCell ⟨w.heap.size + 2, 2, none⟩ (.int .i64 0)).setCell ⟨w.heap.size + 2, 3, none⟩ (.int .i64 0)) = V := ⟨_, rfl⟩
      have qF := ((((qR.set 0 (.int .i64 k)).set 1 (.int .i64 0)).set 2 (.int .i64 0)).set 3 (.int .i64 0))
      simp only [List.set_cons_zero, List.set_cons_succ] at qF
      have hF := ((((hB.setCell (p := ⟨w.heap.size + 2, 0, none⟩) (Nat.le_add_right _ _) (.int .i64 k)).setCell (p := ⟨w.heap.size + 2, 1, none⟩) (Nat.le_add_right _ _) (.int .i64 0)).setCell (p := ⟨w.heap.size + 2, 2, none⟩) (Nat.le_add_right _ _) (.int .i64 0)).setCell (p := ⟨w.heap.size + 2, 3, none⟩) (Nat.le_add_right _ _) (.int .i64 0))
      rw [hV] at qF hF
      have g0 : V.cell? ⟨w.heap.size + 2, 0, none⟩ = some (.int .i64 k) := qF.at rfl
      have g1 : V.cell? ⟨w.heap.size + 2, 1, none⟩ = some (.int .i64 0) := qF.at rfl
      have g2 : V.cell? ⟨w.heap.size + 2, 2, none⟩ = some (.int .i64 0) := qF.at rfl
      have g3 : V.cell? ⟨w.heap.size + 2, 3, none⟩ = some (.int .i64 0) := qF.at rfl
      have HW := Lib.hid hWW
      clear hWW
      go_enter Try.func47, Try.ntmps47
      go_upto_region 1 with fail
      rw [HW.out]
      go_wp2_with fail
      go_at_call 18
      refine (hasks _).mono ?_
      rintro e w1 ⟨rfl, rfl⟩
      go_wp2
      try rw [hV]
      refine bodyPost_ret (v := .agg #[.int .i64 k, .int .i64 0, .int .i64 0, .int .i64 0]) (by simp [results, Try.results47, go_sem, g0, g1, g2, g3]) rfl ?_
      exact ⟨rfl, hF⟩
    | false =>
      rw [if_neg (by simp)] at hQ2
      subst hQ2
      dsimp only
      have z0 : W.cell? ⟨w.heap.size + 2, 0, none⟩ = some (.int .i64 0) := qR.at rfl
      have f0 := qR.free 0
      have z1 : W.cell? ⟨w.heap.size + 2, 1, none⟩ = some (.int .i64 0) := qR.at rfl
      have f1 := qR.free 1
      have z2 : W.cell? ⟨w.heap.size + 2, 2, none⟩ = some (.int .i64 0) := qR.at rfl
      have f2 := qR.free 2
      have z3 : W.cell? ⟨w.heap.size + 2, 3, none⟩ = some (.int .i64 0) := qR.at rfl
      have f3 := qR.free 3
      obtain ⟨V, hV⟩ : ∃ V, ((((W.setCell ⟨w.heap.size + 2, 0, none⟩ (.int .i64 0)).setCell ⟨w.heap.size + 2, 1, none⟩ (.int .i64 0)).setCell ⟨w.heap.size + 2, 2, none⟩ (.int .i64 0)).setCell ⟨w.heap.size + 2, 3, none⟩ (.int .i64 0)) = V := ⟨_, rfl⟩
      have qF := ((((qR.set 0 (.int .i64 0)).set 1 (.int .i64 0)).set 2 (.int .i64 0)).set 3 (.int .i64 0))
      simp only [List.set_cons_zero, List.set_cons_succ] at qF
      have hF := ((((hB.setCell (p := ⟨w.heap.size + 2, 0, none⟩) (Nat.le_add_right _ _) (.int .i64 0)).setCell (p := ⟨w.heap.size + 2, 1, none⟩) (Nat.le_add_right _ _) (.int .i64 0)).setCell (p := ⟨w.heap.size + 2, 2, none⟩) (Nat.le_add_right _ _) (.int .i64 0)).setCell (p := ⟨w.heap.size + 2, 3, none⟩) (Nat.le_add_right _ _) (.int .i64 0))
      rw [hV] at qF hF
      have g0 : V.cell? ⟨w.heap.size + 2, 0, none⟩ = some (.int .i64 0) := qF.at rfl
      have g1 : V.cell? ⟨w.heap.size + 2, 1, none⟩ = some (.int .i64 0) := qF.at rfl
      have g2 : V.cell? ⟨w.heap.size + 2, 2, none⟩ = some (.int .i64 0) := qF.at rfl
      have g3 : V.cell? ⟨w.heap.size + 2, 3, none⟩ = some (.int .i64 0) := qF.at rfl
      have HW := Lib.hid hWW
      clear hWW
      go_enter Try.func47, Try.ntmps47
      go_upto_region 1 with fail
      rw [HW.out]
      go_wp2_with fail
      go_at_call 18
      refine (hasks _).mono ?_
      rintro e w1 ⟨rfl, rfl⟩
      go_wp2
      try rw [hV]
      refine bodyPost_ret (v := .agg #[.int .i64 0, .int .i64 0, .int .i64 0, .int .i64 0]) (by simp [results, Try.results47, go_sem, g0, g1, g2, g3]) rfl ?_
      exact ⟨rfl, hF⟩

theorem Blk.far {T : TypeId} {b : Nat} {xs : List Value} {w w' : World} (h : Blk T b xs w) (hk : w'.heap[b]? = w.heap[b]?) : Blk T b xs w' := hk.trans h

set_option maxRecDepth 100000 in
theorem wantc_gone (s : ByteArray) (b : Nat) (w : World) {v0 v1 v2 v3 : Value} (q : Blk 34 b [v0, v1, v2, v3] w) :
    CallsD Try.prog 46 #[.pointer (some ⟨b, 0, none⟩)] (.panicking [gone s]) w fun e u' w' => e = .returned (.tuple #[]) ∧ u' = .panicking [{ gone s with recovered := true }] ∧ Blk 34 b [.int .i64 0, .int .i64 0, .int .i64 0, .int .i64 0] w' ∧ Below b w w' := by
  have z0 : w.cell? ⟨b, 0, none⟩ = some v0 := q.at rfl
  have z1 : w.cell? ⟨b, 1, none⟩ = some v1 := q.at rfl
  have z2 : w.cell? ⟨b, 2, none⟩ = some v2 := q.at rfl
  have z3 : w.cell? ⟨b, 3, none⟩ = some v3 := q.at rfl
  have f0 := q.free 0
  have f1 := q.free 1
  have f2 := q.free 2
  have f3 := q.free 3
  have qF := (((q.set 0 (.int .i64 0)).set 1 (.int .i64 0)).set 2 (.int .i64 0)).set 3 (.int .i64 0)
  simp only [List.set_cons_zero, List.set_cons_succ] at qF
  have hF := (((((Below.refl b w).setCell (p := ⟨b, 0, none⟩) (Nat.le_refl _) (.int .i64 0)).setCell (p := ⟨b, 1, none⟩) (Nat.le_refl _) (.int .i64 0)).setCell (p := ⟨b, 2, none⟩) (Nat.le_refl _) (.int .i64 0)).setCell (p := ⟨b, 3, none⟩) (Nat.le_refl _) (.int .i64 0))
  refine callsD_of_wpS Try.func46 rfl fun c₀ cs hu => ?_
  apply wpS_seq
  apply wpS_region
  simp [wpOpsS, go_sem, recoverD, hu, Try.ntmps46, Exit.thenS, gone]
  refine wpS_of_wp ?_
  go_wp2
  exact ⟨rfl, _, rfl, _, results_none rfl _ _ _, rfl, rfl, qF, hF⟩
set_option maxRecDepth 100000 in
theorem wantc_idle (b : Nat) (w : World) :
    CallsD Try.prog 46 #[.pointer (some ⟨b, 0, none⟩)] .returning w fun e u' w' => e = .returned (.tuple #[]) ∧ u' = .returning ∧ w' = w := by
  refine callsD_of_wpS Try.func46 rfl fun c₀ cs hu => ?_
  apply wpS_seq
  apply wpS_region
  simp [wpOpsS, go_sem, recoverD, hu, Try.ntmps46, Exit.thenS]
  refine wpS_of_wp ?_
  go_wp2
  refine ⟨rfl, .returning, ?_, _, results_none rfl _ _ _, rfl, rfl, rfl⟩
  rw [← hu]

set_option maxHeartbeats 1600000 in
set_option maxRecDepth 100000 in
theorem want_bad (w : World) (A : Option Addr) (n c : Nat) (P : TState) (a1 : Option Addr) (c1 : Nat) (a2 : Option Addr) (c2 : Nat) (a3 : Option Addr) (c3 : Nat) (h : St w P a1 c1 a2 c2 a3 c3) (hm1 : P.f1.length ≤ 1048576) (hm2 : P.f2.length ≤ 1048576) (hm3 : P.f3.length ≤ 1048576) (hs : stateB P = false) :
    Calls Try.prog 13 #[.slice A n c, .agg #[.int .i64 P.f0, .slice a1 P.f1.length c1, .slice a2 P.f2.length c2, .slice a3 P.f3.length c3]] w fun e w' => e = .returned (.agg #[.int .i64 0, .int .i64 0, .int .i64 0, .int .i64 0]) ∧ Below w.heap.size w w' := by
  obtain ⟨W, hWW⟩ : ∃ Z, (w.alloc (.cells #[.int .i64 P.f0, .slice a1 P.f1.length c1, .slice a2 P.f2.length c2, .slice a3 P.f3.length c3] 27)).alloc (.cells #[.int .i64 0, .int .i64 0, .int .i64 0, .int .i64 0] 34) = Z := ⟨_, rfl⟩
  have qB : Blk 27 w.heap.size [.int .i64 P.f0, .slice a1 P.f1.length c1, .slice a2 P.f2.length c2, .slice a3 P.f3.length c3] W := by rw [← hWW]; exact (Blk.new _ [.int .i64 P.f0, .slice a1 P.f1.length c1, .slice a2 P.f2.length c2, .slice a3 P.f3.length c3] w).alloc _
  have qR : Blk 34 (w.heap.size + 1) [.int .i64 0, .int .i64 0, .int .i64 0, .int .i64 0] W := by
    have := Blk.new 34 [.int .i64 0, .int .i64 0, .int .i64 0, .int .i64 0] (w.alloc (.cells #[.int .i64 P.f0, .slice a1 P.f1.length c1, .slice a2 P.f2.length c2, .slice a3 P.f3.length c3] 27))
    rw [gsize_alloc] at this
    rw [← hWW]; exact this
  have hB : Below w.heap.size w W := by rw [← hWW]; exact ((Below.refl _ _).alloc (Nat.le_refl _) _).alloc (by rw [gsize_alloc]; omega) _
  have hz : w.heap.size + 2 ≤ W.heap.size := qR.lt
  have hmf : ∀ (fn : Fn) (first cap : Array Value) (w : World), (Instr.makeFunc fn first cap).run Try.prog w = .ok (.func fn first cap) w := fun _ _ _ _ => rfl
  have hM := machine_no W P a1 c1 a2 c2 a3 c3 (h.below hB) hm1 hm2 hm3 hs
  have x0 : W.cell? ⟨w.heap.size, 0, none⟩ = some (.int .i64 P.f0) := qB.at rfl
  have x1 : W.cell? ⟨w.heap.size, 1, none⟩ = some (.slice a1 P.f1.length c1) := qB.at rfl
  have x2 : W.cell? ⟨w.heap.size, 2, none⟩ = some (.slice a2 P.f2.length c2) := qB.at rfl
  have x3 : W.cell? ⟨w.heap.size, 3, none⟩ = some (.slice a3 P.f3.length c3) := qB.at rfl
  have HW := Lib.hid hWW
  clear hWW
  go_enter_defers Try.func13, Try.ntmps13
  go_upto_region 2 with fail
  try rw [HW.out]
  go_wp2_with fail
  go_at_call 42
  refine hM.mono ?_
  rintro e w1 ⟨s, rfl, hb1⟩
  have qR := qR.below hb1
  have hB := hB.trans (hb1.mono hB.size)
  clear x0 x1 x2 x3 hM
  go_wp2
  refine leaves_cons (f := 46) (args := #[.pointer (some ⟨w.heap.size + 1, 0, none⟩)]) (by simp) (by simp [go_sem]) ?_
  refine (wantc_gone _ _ _ qR).mono ?_
  rintro e u w3 ⟨rfl, rfl, qR, hb3⟩
  have g0 := qR.at (x := 0) rfl
  have g1 := qR.at (x := 1) rfl
  have g2 := qR.at (x := 2) rfl
  have g3 := qR.at (x := 3) rfl
  have hB := hB.trans (hb3.mono (Nat.le_succ _))
  exact ⟨.agg #[.int .i64 0, .int .i64 0, .int .i64 0, .int .i64 0], by simp [results, Try.results13, go_sem, g0, g1, g2, g3], rfl, hB⟩

set_option maxHeartbeats 1600000 in
set_option maxRecDepth 100000 in
theorem want_none (w : World) (A : Option Addr) (n c : Nat) (p r0 r1 r2 r3 s0 s1 s2 n0 n1 n2 n3 : Int) (a1 : Option Addr) (c1 : Nat) (a2 : Option Addr) (c2 : Nat) (a3 : Option Addr) (c3 : Nat) (h : St w ⟨p, [r0, r1, r2, r3], [s0, s1, s2], [n0, n1, n2, n3]⟩ a1 c1 a2 c2 a3 c3) (hs : stateB ⟨p, [r0, r1, r2, r3], [s0, s1, s2], [n0, n1, n2, n3]⟩ = true)
    (hN : ∀ W : World, Below w.heap.size w W → Calls Try.prog 44 #[.agg #[.int .i64 p, .int .i64 r0, .int .i64 r1, .int .i64 r2, .int .i64 r3, .int .i64 s0, .int .i64 s1, .int .i64 s2, .int .i64 n0, .int .i64 n1, .int .i64 n2, .int .i64 n3], .slice A n c] W fun e w' => ∃ s, e = .panicked [gone s] ∧ Below W.heap.size W w') :
    Calls Try.prog 13 #[.slice A n c, .agg #[.int .i64 p, .slice a1 4 c1, .slice a2 3 c2, .slice a3 4 c3]] w fun e w' => e = .returned (.agg #[.int .i64 0, .int .i64 0, .int .i64 0, .int .i64 0]) ∧ Below w.heap.size w w' := by
  obtain ⟨W, hWW⟩ : ∃ Z, (w.alloc (.cells #[.int .i64 p, .slice a1 4 c1, .slice a2 3 c2, .slice a3 4 c3] 27)).alloc (.cells #[.int .i64 0, .int .i64 0, .int .i64 0, .int .i64 0] 34) = Z := ⟨_, rfl⟩
  have qB : Blk 27 w.heap.size [.int .i64 p, .slice a1 4 c1, .slice a2 3 c2, .slice a3 4 c3] W := by rw [← hWW]; exact (Blk.new _ [.int .i64 p, .slice a1 4 c1, .slice a2 3 c2, .slice a3 4 c3] w).alloc _
  have qR : Blk 34 (w.heap.size + 1) [.int .i64 0, .int .i64 0, .int .i64 0, .int .i64 0] W := by
    have := Blk.new 34 [.int .i64 0, .int .i64 0, .int .i64 0, .int .i64 0] (w.alloc (.cells #[.int .i64 p, .slice a1 4 c1, .slice a2 3 c2, .slice a3 4 c3] 27))
    rw [gsize_alloc] at this
    rw [← hWW]; exact this
  have hB : Below w.heap.size w W := by rw [← hWW]; exact ((Below.refl _ _).alloc (Nat.le_refl _) _).alloc (by rw [gsize_alloc]; omega) _
  have hz : w.heap.size + 2 ≤ W.heap.size := qR.lt
  have hmf : ∀ (fn : Fn) (first cap : Array Value) (w : World), (Instr.makeFunc fn first cap).run Try.prog w = .ok (.func fn first cap) w := fun _ _ _ _ => rfl
  have hM := machine_yes W p r0 r1 r2 r3 s0 s1 s2 n0 n1 n2 n3 a1 c1 a2 c2 a3 c3 (h.below hB) hs
  have x0 : W.cell? ⟨w.heap.size, 0, none⟩ = some (.int .i64 p) := qB.at rfl
  have x1 : W.cell? ⟨w.heap.size, 1, none⟩ = some (.slice a1 4 c1) := qB.at rfl
  have x2 : W.cell? ⟨w.heap.size, 2, none⟩ = some (.slice a2 3 c2) := qB.at rfl
  have x3 : W.cell? ⟨w.heap.size, 3, none⟩ = some (.slice a3 4 c3) := qB.at rfl
  have HW := Lib.hid hWW
  clear hWW
  go_enter_defers Try.func13, Try.ntmps13
  go_upto_region 2 with fail
  try rw [HW.out]
  go_wp2_with fail
  go_at_call 42
  refine hM.mono ?_
  rintro e w1 ⟨rfl, hb1⟩
  have qR := qR.below hb1
  have hB := hB.trans (hb1.mono hB.size)
  have hz := Nat.le_trans hz hb1.size
  clear x0 x1 x2 x3 hM hb1 qB
  obtain ⟨W2, hW2⟩ : ∃ Z, w1.alloc (.cells #[.int .i64 0, .int .i64 0, .int .i64 0, .int .i64 0, .int .i64 0, .int .i64 0, .int .i64 0, .int .i64 0, .int .i64 0, .int .i64 0, .int .i64 0, .int .i64 0] 67) = Z := ⟨_, rfl⟩
  obtain ⟨b2, hb2⟩ : ∃ b, w1.heap.size = b := ⟨_, rfl⟩
  have qM : Blk 67 b2 [.int .i64 0, .int .i64 0, .int .i64 0, .int .i64 0, .int .i64 0, .int .i64 0, .int .i64 0, .int .i64 0, .int .i64 0, .int .i64 0, .int .i64 0, .int .i64 0] W2 := by rw [← hW2, ← hb2]; exact Blk.new _ [.int .i64 0, .int .i64 0, .int .i64 0, .int .i64 0, .int .i64 0, .int .i64 0, .int .i64 0, .int .i64 0, .int .i64 0, .int .i64 0, .int .i64 0, .int .i64 0] w1
  have hA : Below w1.heap.size w1 W2 := by rw [← hW2]; exact (Below.refl _ _).alloc (Nat.le_refl _) _
  have qR := qR.below hA
  have hB := hB.trans (hA.mono hB.size)
  have hb2w : w.heap.size + 2 ≤ b2 := by omega
  have hb2l := qM.lt
  have z0 : W2.cell? ⟨b2, 0, none⟩ = some (.int .i64 0) := qM.at rfl
  have f0 := qM.free 0
  have z1 : W2.cell? ⟨b2, 1, none⟩ = some (.int .i64 0) := qM.at rfl
  have f1 := qM.free 1
  have z2 : W2.cell? ⟨b2, 2, none⟩ = some (.int .i64 0) := qM.at rfl
  have f2 := qM.free 2
  have z3 : W2.cell? ⟨b2, 3, none⟩ = some (.int .i64 0) := qM.at rfl
  have f3 := qM.free 3
  have z4 : W2.cell? ⟨b2, 4, none⟩ = some (.int .i64 0) := qM.at rfl
  have f4 := qM.free 4
  have z5 : W2.cell? ⟨b2, 5, none⟩ = some (.int .i64 0) := qM.at rfl
  have f5 := qM.free 5
  have z6 : W2.cell? ⟨b2, 6, none⟩ = some (.int .i64 0) := qM.at rfl
  have f6 := qM.free 6
  have z7 : W2.cell? ⟨b2, 7, none⟩ = some (.int .i64 0) := qM.at rfl
  have f7 := qM.free 7
  have z8 : W2.cell? ⟨b2, 8, none⟩ = some (.int .i64 0) := qM.at rfl
  have f8 := qM.free 8
  have z9 : W2.cell? ⟨b2, 9, none⟩ = some (.int .i64 0) := qM.at rfl
  have f9 := qM.free 9
  have z10 : W2.cell? ⟨b2, 10, none⟩ = some (.int .i64 0) := qM.at rfl
  have f10 := qM.free 10
  have z11 : W2.cell? ⟨b2, 11, none⟩ = some (.int .i64 0) := qM.at rfl
  have f11 := qM.free 11
  obtain ⟨VF, hVF, qF, hsF, hkp, hF⟩ := put12 (w := w) (B := w.heap.size) (b := b2) (w1 := W2) (v0 := .int .i64 p) (v1 := .int .i64 r0) (v2 := .int .i64 r1) (v3 := .int .i64 r2) (v4 := .int .i64 r3) (v5 := .int .i64 s0) (v6 := .int .i64 s1) (v7 := .int .i64 s2) (v8 := .int .i64 n0) (v9 := .int .i64 n1) (v10 := .int .i64 n2) (v11 := .int .i64 n3) qM (by omega) hB
  clear hA
  go_upto_region 3 with fail
  try rw [hVF]
  clear hVF hW2 hb2 qM z0 f0 z1 f1 z2 f2 z3 f3 z4 f4 z5 f5 z6 f6 z7 f7 z8 f8 z9 f9 z10 f10 z11 f11
  have qR := Blk.far qR (hkp _ (by omega))
  have hB := hF
  have hz : b2 + 1 ≤ VF.heap.size := by omega
  clear hsF hkp hF
  obtain ⟨V4, hV4⟩ : ∃ V4, VF.drew = V4 := ⟨_, rfl⟩
  have qM := qF.drew
  have qR := qR.drew
  have hB := gbelow_drewN hB 1
  rw [hV4] at qM qR
  replace hB : Below w.heap.size w V4 := by rw [← hV4]; exact hB
  replace hz : b2 + 1 ≤ V4.heap.size := by rw [← hV4]; exact hz
  have s9 : V4.cell? ⟨b2, 0, none⟩ = some (.int .i64 p) ∧ V4.cell? ⟨b2, 1, none⟩ = some (.int .i64 r0) ∧ V4.cell? ⟨b2, 2, none⟩ = some (.int .i64 r1) ∧ V4.cell? ⟨b2, 3, none⟩ = some (.int .i64 r2) ∧ V4.cell? ⟨b2, 4, none⟩ = some (.int .i64 r3) ∧ V4.cell? ⟨b2, 5, none⟩ = some (.int .i64 s0) ∧ V4.cell? ⟨b2, 6, none⟩ = some (.int .i64 s1) ∧ V4.cell? ⟨b2, 7, none⟩ = some (.int .i64 s2) ∧ V4.cell? ⟨b2, 8, none⟩ = some (.int .i64 n0) ∧ V4.cell? ⟨b2, 9, none⟩ = some (.int .i64 n1) ∧ V4.cell? ⟨b2, 10, none⟩ = some (.int .i64 n2) ∧ V4.cell? ⟨b2, 11, none⟩ = some (.int .i64 n3) := ⟨qM.at rfl, qM.at rfl, qM.at rfl, qM.at rfl, qM.at rfl, qM.at rfl, qM.at rfl, qM.at rfl, qM.at rfl, qM.at rfl, qM.at rfl, qM.at rfl⟩
  obtain ⟨c0, c1, c2, c3, c4, c5, c6, c7, c8, c9, c10, c11⟩ := s9
  refine wp_region_held_drew (S := fun _ => True) (by kernel_rfl) trivial (fun _ => ?_)
  rw [hV4]
  clear hV4
  refine wpAnyH_ready (rs := [0, 1, 2]) (by kernel_rfl) (by simp) ?_
  refine (AllReadyH.cons (List.getElem?_toArray.trans rfl) (fun K hK => ?o1_0) (AllReadyH.cons (List.getElem?_toArray.trans rfl) (fun K hK => ?o1_1) (AllReadyH.cons (List.getElem?_toArray.trans rfl) (fun K hK => ?o1_2) AllReadyH.nil)))
  case o1_0 =>
    go_simp
    refine hK.out _ _ trivial (fun _ => ?_)
    clear hK K
    try simp only [Act.put, List.setIfInBounds_toArray, List.set_cons_zero, List.set_cons_succ]
    refine wpAnyH_ready (rs := [1, 2]) (by kernel_rfl) (by simp) ?_
    refine (AllReadyH.cons (List.getElem?_toArray.trans rfl) (fun K hK => ?o2_1) (AllReadyH.cons (List.getElem?_toArray.trans rfl) (fun K hK => ?o2_2) AllReadyH.nil))
    case o2_1 =>
      go_simp
      refine hK.out _ _ trivial (fun _ => ?_)
      clear hK K
      try simp only [Act.put, List.setIfInBounds_toArray, List.set_cons_zero, List.set_cons_succ]
      refine wpAnyH_ready (rs := [2]) (by kernel_rfl) (by simp) ?_
      refine (AllReadyH.cons (List.getElem?_toArray.trans rfl) (fun K hK => ?o3_2) AllReadyH.nil)
      case o3_2 =>
        go_simp
        refine hK.out _ _ trivial (fun _ => ?_)
        clear hK K
        try simp only [Act.put, List.setIfInBounds_toArray, List.set_cons_zero, List.set_cons_succ]
        refine wpAnyH_ready (rs := [3]) (by kernel_rfl) (by simp) ?_
        refine (AllReadyH.cons (List.getElem?_toArray.trans rfl) (fun K hK => ?o4_3) AllReadyH.nil)
        case o4_3 =>
          go_simp
          go_at_call 44
          refine (hN V4 hB).mono ?_
          rintro e w2 ⟨s, rfl, hb⟩
          have qR := qR.below hb
          have hB := hB.trans (hb.mono hB.size)
          clear c0 c1 c2 c3 c4 c5 c6 c7 c8 c9 c10 c11
          go_wp2
          refine leaves_cons (f := 46) (args := #[.pointer (some ⟨w.heap.size + 1, 0, none⟩)]) (by simp) (by simp [go_sem]) ?_
          refine (wantc_gone _ _ _ qR).mono ?_
          rintro e u w3 ⟨rfl, rfl, qR, hb3⟩
          have g0 := qR.at (x := 0) rfl
          have g1 := qR.at (x := 1) rfl
          have g2 := qR.at (x := 2) rfl
          have g3 := qR.at (x := 3) rfl
          have hB := hB.trans (hb3.mono (Nat.le_succ _))
          exact ⟨.agg #[.int .i64 0, .int .i64 0, .int .i64 0, .int .i64 0], by simp [results, Try.results13, go_sem, g0, g1, g2, g3], rfl, hB⟩
    case o2_2 =>
      go_simp
      refine hK.out _ _ trivial (fun _ => ?_)
      clear hK K
      try simp only [Act.put, List.setIfInBounds_toArray, List.set_cons_zero, List.set_cons_succ]
      refine wpAnyH_ready (rs := [1]) (by kernel_rfl) (by simp) ?_
      refine (AllReadyH.cons (List.getElem?_toArray.trans rfl) (fun K hK => ?o5_1) AllReadyH.nil)
      case o5_1 =>
        go_simp
        refine hK.out _ _ trivial (fun _ => ?_)
        clear hK K
        try simp only [Act.put, List.setIfInBounds_toArray, List.set_cons_zero, List.set_cons_succ]
        refine wpAnyH_ready (rs := [3]) (by kernel_rfl) (by simp) ?_
        refine (AllReadyH.cons (List.getElem?_toArray.trans rfl) (fun K hK => ?o6_3) AllReadyH.nil)
        case o6_3 =>
          go_simp
          go_at_call 44
          refine (hN V4 hB).mono ?_
          rintro e w2 ⟨s, rfl, hb⟩
          have qR := qR.below hb
          have hB := hB.trans (hb.mono hB.size)
          clear c0 c1 c2 c3 c4 c5 c6 c7 c8 c9 c10 c11
          go_wp2
          refine leaves_cons (f := 46) (args := #[.pointer (some ⟨w.heap.size + 1, 0, none⟩)]) (by simp) (by simp [go_sem]) ?_
          refine (wantc_gone _ _ _ qR).mono ?_
          rintro e u w3 ⟨rfl, rfl, qR, hb3⟩
          have g0 := qR.at (x := 0) rfl
          have g1 := qR.at (x := 1) rfl
          have g2 := qR.at (x := 2) rfl
          have g3 := qR.at (x := 3) rfl
          have hB := hB.trans (hb3.mono (Nat.le_succ _))
          exact ⟨.agg #[.int .i64 0, .int .i64 0, .int .i64 0, .int .i64 0], by simp [results, Try.results13, go_sem, g0, g1, g2, g3], rfl, hB⟩
  case o1_1 =>
    go_simp
    refine hK.out _ _ trivial (fun _ => ?_)
    clear hK K
    try simp only [Act.put, List.setIfInBounds_toArray, List.set_cons_zero, List.set_cons_succ]
    refine wpAnyH_ready (rs := [0, 2]) (by kernel_rfl) (by simp) ?_
    refine (AllReadyH.cons (List.getElem?_toArray.trans rfl) (fun K hK => ?o7_0) (AllReadyH.cons (List.getElem?_toArray.trans rfl) (fun K hK => ?o7_2) AllReadyH.nil))
    case o7_0 =>
      go_simp
      refine hK.out _ _ trivial (fun _ => ?_)
      clear hK K
      try simp only [Act.put, List.setIfInBounds_toArray, List.set_cons_zero, List.set_cons_succ]
      refine wpAnyH_ready (rs := [2]) (by kernel_rfl) (by simp) ?_
      refine (AllReadyH.cons (List.getElem?_toArray.trans rfl) (fun K hK => ?o8_2) AllReadyH.nil)
      case o8_2 =>
        go_simp
        refine hK.out _ _ trivial (fun _ => ?_)
        clear hK K
        try simp only [Act.put, List.setIfInBounds_toArray, List.set_cons_zero, List.set_cons_succ]
        refine wpAnyH_ready (rs := [3]) (by kernel_rfl) (by simp) ?_
        refine (AllReadyH.cons (List.getElem?_toArray.trans rfl) (fun K hK => ?o9_3) AllReadyH.nil)
        case o9_3 =>
          go_simp
          go_at_call 44
          refine (hN V4 hB).mono ?_
          rintro e w2 ⟨s, rfl, hb⟩
          have qR := qR.below hb
          have hB := hB.trans (hb.mono hB.size)
          clear c0 c1 c2 c3 c4 c5 c6 c7 c8 c9 c10 c11
          go_wp2
          refine leaves_cons (f := 46) (args := #[.pointer (some ⟨w.heap.size + 1, 0, none⟩)]) (by simp) (by simp [go_sem]) ?_
          refine (wantc_gone _ _ _ qR).mono ?_
          rintro e u w3 ⟨rfl, rfl, qR, hb3⟩
          have g0 := qR.at (x := 0) rfl
          have g1 := qR.at (x := 1) rfl
          have g2 := qR.at (x := 2) rfl
          have g3 := qR.at (x := 3) rfl
          have hB := hB.trans (hb3.mono (Nat.le_succ _))
          exact ⟨.agg #[.int .i64 0, .int .i64 0, .int .i64 0, .int .i64 0], by simp [results, Try.results13, go_sem, g0, g1, g2, g3], rfl, hB⟩
    case o7_2 =>
      go_simp
      refine hK.out _ _ trivial (fun _ => ?_)
      clear hK K
      try simp only [Act.put, List.setIfInBounds_toArray, List.set_cons_zero, List.set_cons_succ]
      refine wpAnyH_ready (rs := [0, 3]) (by kernel_rfl) (by simp) ?_
      refine (AllReadyH.cons (List.getElem?_toArray.trans rfl) (fun K hK => ?o10_0) (AllReadyH.cons (List.getElem?_toArray.trans rfl) (fun K hK => ?o10_3) AllReadyH.nil))
      case o10_0 =>
        go_simp
        refine hK.out _ _ trivial (fun _ => ?_)
        clear hK K
        try simp only [Act.put, List.setIfInBounds_toArray, List.set_cons_zero, List.set_cons_succ]
        refine wpAnyH_ready (rs := [3]) (by kernel_rfl) (by simp) ?_
        refine (AllReadyH.cons (List.getElem?_toArray.trans rfl) (fun K hK => ?o11_3) AllReadyH.nil)
        case o11_3 =>
          go_simp
          go_at_call 44
          refine (hN V4 hB).mono ?_
          rintro e w2 ⟨s, rfl, hb⟩
          have qR := qR.below hb
          have hB := hB.trans (hb.mono hB.size)
          clear c0 c1 c2 c3 c4 c5 c6 c7 c8 c9 c10 c11
          go_wp2
          refine leaves_cons (f := 46) (args := #[.pointer (some ⟨w.heap.size + 1, 0, none⟩)]) (by simp) (by simp [go_sem]) ?_
          refine (wantc_gone _ _ _ qR).mono ?_
          rintro e u w3 ⟨rfl, rfl, qR, hb3⟩
          have g0 := qR.at (x := 0) rfl
          have g1 := qR.at (x := 1) rfl
          have g2 := qR.at (x := 2) rfl
          have g3 := qR.at (x := 3) rfl
          have hB := hB.trans (hb3.mono (Nat.le_succ _))
          exact ⟨.agg #[.int .i64 0, .int .i64 0, .int .i64 0, .int .i64 0], by simp [results, Try.results13, go_sem, g0, g1, g2, g3], rfl, hB⟩
      case o10_3 =>
        go_simp
        go_at_call 44
        refine (hN V4 hB).mono ?_
        rintro e w2 ⟨s, rfl, hb⟩
        have qR := qR.below hb
        have hB := hB.trans (hb.mono hB.size)
        clear c0 c1 c2 c3 c4 c5 c6 c7 c8 c9 c10 c11
        go_wp2
        refine leaves_cons (f := 46) (args := #[.pointer (some ⟨w.heap.size + 1, 0, none⟩)]) (by simp) (by simp [go_sem]) ?_
        refine (wantc_gone _ _ _ qR).mono ?_
        rintro e u w3 ⟨rfl, rfl, qR, hb3⟩
        have g0 := qR.at (x := 0) rfl
        have g1 := qR.at (x := 1) rfl
        have g2 := qR.at (x := 2) rfl
        have g3 := qR.at (x := 3) rfl
        have hB := hB.trans (hb3.mono (Nat.le_succ _))
        exact ⟨.agg #[.int .i64 0, .int .i64 0, .int .i64 0, .int .i64 0], by simp [results, Try.results13, go_sem, g0, g1, g2, g3], rfl, hB⟩
  case o1_2 =>
    go_simp
    refine hK.out _ _ trivial (fun _ => ?_)
    clear hK K
    try simp only [Act.put, List.setIfInBounds_toArray, List.set_cons_zero, List.set_cons_succ]
    refine wpAnyH_ready (rs := [0, 1]) (by kernel_rfl) (by simp) ?_
    refine (AllReadyH.cons (List.getElem?_toArray.trans rfl) (fun K hK => ?o12_0) (AllReadyH.cons (List.getElem?_toArray.trans rfl) (fun K hK => ?o12_1) AllReadyH.nil))
    case o12_0 =>
      go_simp
      refine hK.out _ _ trivial (fun _ => ?_)
      clear hK K
      try simp only [Act.put, List.setIfInBounds_toArray, List.set_cons_zero, List.set_cons_succ]
      refine wpAnyH_ready (rs := [1]) (by kernel_rfl) (by simp) ?_
      refine (AllReadyH.cons (List.getElem?_toArray.trans rfl) (fun K hK => ?o13_1) AllReadyH.nil)
      case o13_1 =>
        go_simp
        refine hK.out _ _ trivial (fun _ => ?_)
        clear hK K
        try simp only [Act.put, List.setIfInBounds_toArray, List.set_cons_zero, List.set_cons_succ]
        refine wpAnyH_ready (rs := [3]) (by kernel_rfl) (by simp) ?_
        refine (AllReadyH.cons (List.getElem?_toArray.trans rfl) (fun K hK => ?o14_3) AllReadyH.nil)
        case o14_3 =>
          go_simp
          go_at_call 44
          refine (hN V4 hB).mono ?_
          rintro e w2 ⟨s, rfl, hb⟩
          have qR := qR.below hb
          have hB := hB.trans (hb.mono hB.size)
          clear c0 c1 c2 c3 c4 c5 c6 c7 c8 c9 c10 c11
          go_wp2
          refine leaves_cons (f := 46) (args := #[.pointer (some ⟨w.heap.size + 1, 0, none⟩)]) (by simp) (by simp [go_sem]) ?_
          refine (wantc_gone _ _ _ qR).mono ?_
          rintro e u w3 ⟨rfl, rfl, qR, hb3⟩
          have g0 := qR.at (x := 0) rfl
          have g1 := qR.at (x := 1) rfl
          have g2 := qR.at (x := 2) rfl
          have g3 := qR.at (x := 3) rfl
          have hB := hB.trans (hb3.mono (Nat.le_succ _))
          exact ⟨.agg #[.int .i64 0, .int .i64 0, .int .i64 0, .int .i64 0], by simp [results, Try.results13, go_sem, g0, g1, g2, g3], rfl, hB⟩
    case o12_1 =>
      go_simp
      refine hK.out _ _ trivial (fun _ => ?_)
      clear hK K
      try simp only [Act.put, List.setIfInBounds_toArray, List.set_cons_zero, List.set_cons_succ]
      refine wpAnyH_ready (rs := [0, 3]) (by kernel_rfl) (by simp) ?_
      refine (AllReadyH.cons (List.getElem?_toArray.trans rfl) (fun K hK => ?o15_0) (AllReadyH.cons (List.getElem?_toArray.trans rfl) (fun K hK => ?o15_3) AllReadyH.nil))
      case o15_0 =>
        go_simp
        refine hK.out _ _ trivial (fun _ => ?_)
        clear hK K
        try simp only [Act.put, List.setIfInBounds_toArray, List.set_cons_zero, List.set_cons_succ]
        refine wpAnyH_ready (rs := [3]) (by kernel_rfl) (by simp) ?_
        refine (AllReadyH.cons (List.getElem?_toArray.trans rfl) (fun K hK => ?o16_3) AllReadyH.nil)
        case o16_3 =>
          go_simp
          go_at_call 44
          refine (hN V4 hB).mono ?_
          rintro e w2 ⟨s, rfl, hb⟩
          have qR := qR.below hb
          have hB := hB.trans (hb.mono hB.size)
          clear c0 c1 c2 c3 c4 c5 c6 c7 c8 c9 c10 c11
          go_wp2
          refine leaves_cons (f := 46) (args := #[.pointer (some ⟨w.heap.size + 1, 0, none⟩)]) (by simp) (by simp [go_sem]) ?_
          refine (wantc_gone _ _ _ qR).mono ?_
          rintro e u w3 ⟨rfl, rfl, qR, hb3⟩
          have g0 := qR.at (x := 0) rfl
          have g1 := qR.at (x := 1) rfl
          have g2 := qR.at (x := 2) rfl
          have g3 := qR.at (x := 3) rfl
          have hB := hB.trans (hb3.mono (Nat.le_succ _))
          exact ⟨.agg #[.int .i64 0, .int .i64 0, .int .i64 0, .int .i64 0], by simp [results, Try.results13, go_sem, g0, g1, g2, g3], rfl, hB⟩
      case o15_3 =>
        go_simp
        go_at_call 44
        refine (hN V4 hB).mono ?_
        rintro e w2 ⟨s, rfl, hb⟩
        have qR := qR.below hb
        have hB := hB.trans (hb.mono hB.size)
        clear c0 c1 c2 c3 c4 c5 c6 c7 c8 c9 c10 c11
        go_wp2
        refine leaves_cons (f := 46) (args := #[.pointer (some ⟨w.heap.size + 1, 0, none⟩)]) (by simp) (by simp [go_sem]) ?_
        refine (wantc_gone _ _ _ qR).mono ?_
        rintro e u w3 ⟨rfl, rfl, qR, hb3⟩
        have g0 := qR.at (x := 0) rfl
        have g1 := qR.at (x := 1) rfl
        have g2 := qR.at (x := 2) rfl
        have g3 := qR.at (x := 3) rfl
        have hB := hB.trans (hb3.mono (Nat.le_succ _))
        exact ⟨.agg #[.int .i64 0, .int .i64 0, .int .i64 0, .int .i64 0], by simp [results, Try.results13, go_sem, g0, g1, g2, g3], rfl, hB⟩


set_option maxHeartbeats 4000000 in
set_option maxRecDepth 100000 in
theorem want_some (w : World) (A : Option Addr) (n c : Nat) (p r0 r1 r2 r3 s0 s1 s2 n0 n1 n2 n3 : Int) (a1 : Option Addr) (c1 : Nat) (a2 : Option Addr) (c2 : Nat) (a3 : Option Addr) (c3 : Nat) (h : St w ⟨p, [r0, r1, r2, r3], [s0, s1, s2], [n0, n1, n2, n3]⟩ a1 c1 a2 c2 a3 c3) (hs : stateB ⟨p, [r0, r1, r2, r3], [s0, s1, s2], [n0, n1, n2, n3]⟩ = true) (o : TOp) (q0 q1 q2 q3 : Int)
    (hN : ∀ W : World, Below w.heap.size w W → Calls Try.prog 44 #[.agg #[.int .i64 p, .int .i64 r0, .int .i64 r1, .int .i64 r2, .int .i64 r3, .int .i64 s0, .int .i64 s1, .int .i64 s2, .int .i64 n0, .int .i64 n1, .int .i64 n2, .int .i64 n3], .slice A n c] W fun e w' => e = .returned (.agg #[.int .i64 o.f0, .int .i64 o.f1, .int .i64 o.f2, .int .i64 o.f3]) ∧ Below W.heap.size W w')
    (hWt : ∀ W : World, Calls Try.prog 47 #[.agg #[.int .i64 p, .int .i64 r0, .int .i64 r1, .int .i64 r2, .int .i64 r3, .int .i64 s0, .int .i64 s1, .int .i64 s2, .int .i64 n0, .int .i64 n1, .int .i64 n2, .int .i64 n3], .agg #[.int .i64 o.f0, .int .i64 o.f1, .int .i64 o.f2, .int .i64 o.f3]] W fun e w' => e = .returned (.agg #[.int .i64 q0, .int .i64 q1, .int .i64 q2, .int .i64 q3]) ∧ Below W.heap.size W w') :
    Calls Try.prog 13 #[.slice A n c, .agg #[.int .i64 p, .slice a1 4 c1, .slice a2 3 c2, .slice a3 4 c3]] w fun e w' => e = .returned (.agg #[.int .i64 q0, .int .i64 q1, .int .i64 q2, .int .i64 q3]) ∧ Below w.heap.size w w' := by
  obtain ⟨W, hWW⟩ : ∃ Z, (w.alloc (.cells #[.int .i64 p, .slice a1 4 c1, .slice a2 3 c2, .slice a3 4 c3] 27)).alloc (.cells #[.int .i64 0, .int .i64 0, .int .i64 0, .int .i64 0] 34) = Z := ⟨_, rfl⟩
  have qB : Blk 27 w.heap.size [.int .i64 p, .slice a1 4 c1, .slice a2 3 c2, .slice a3 4 c3] W := by rw [← hWW]; exact (Blk.new _ [.int .i64 p, .slice a1 4 c1, .slice a2 3 c2, .slice a3 4 c3] w).alloc _
  have qR : Blk 34 (w.heap.size + 1) [.int .i64 0, .int .i64 0, .int .i64 0, .int .i64 0] W := by
    have := Blk.new 34 [.int .i64 0, .int .i64 0, .int .i64 0, .int .i64 0] (w.alloc (.cells #[.int .i64 p, .slice a1 4 c1, .slice a2 3 c2, .slice a3 4 c3] 27))
    rw [gsize_alloc] at this
    rw [← hWW]; exact this
  have hB : Below w.heap.size w W := by rw [← hWW]; exact ((Below.refl _ _).alloc (Nat.le_refl _) _).alloc (by rw [gsize_alloc]; omega) _
  have hz : w.heap.size + 2 ≤ W.heap.size := qR.lt
  have hmf : ∀ (fn : Fn) (first cap : Array Value) (w : World), (Instr.makeFunc fn first cap).run Try.prog w = .ok (.func fn first cap) w := fun _ _ _ _ => rfl
  have hM := machine_yes W p r0 r1 r2 r3 s0 s1 s2 n0 n1 n2 n3 a1 c1 a2 c2 a3 c3 (h.below hB) hs
  have x0 : W.cell? ⟨w.heap.size, 0, none⟩ = some (.int .i64 p) := qB.at rfl
  have x1 : W.cell? ⟨w.heap.size, 1, none⟩ = some (.slice a1 4 c1) := qB.at rfl
  have x2 : W.cell? ⟨w.heap.size, 2, none⟩ = some (.slice a2 3 c2) := qB.at rfl
  have x3 : W.cell? ⟨w.heap.size, 3, none⟩ = some (.slice a3 4 c3) := qB.at rfl
  have HW := Lib.hid hWW
  clear hWW
  go_enter_defers Try.func13, Try.ntmps13
  go_upto_region 2 with fail
  try rw [HW.out]
  go_wp2_with fail
  go_at_call 42
  refine hM.mono ?_
  rintro e w1 ⟨rfl, hb1⟩
  have qR := qR.below hb1
  have hB := hB.trans (hb1.mono hB.size)
  have hz := Nat.le_trans hz hb1.size
  clear x0 x1 x2 x3 hM hb1 qB
  obtain ⟨W2, hW2⟩ : ∃ Z, w1.alloc (.cells #[.int .i64 0, .int .i64 0, .int .i64 0, .int .i64 0, .int .i64 0, .int .i64 0, .int .i64 0, .int .i64 0, .int .i64 0, .int .i64 0, .int .i64 0, .int .i64 0] 67) = Z := ⟨_, rfl⟩
  obtain ⟨b2, hb2⟩ : ∃ b, w1.heap.size = b := ⟨_, rfl⟩
  have qM : Blk 67 b2 [.int .i64 0, .int .i64 0, .int .i64 0, .int .i64 0, .int .i64 0, .int .i64 0, .int .i64 0, .int .i64 0, .int .i64 0, .int .i64 0, .int .i64 0, .int .i64 0] W2 := by rw [← hW2, ← hb2]; exact Blk.new _ [.int .i64 0, .int .i64 0, .int .i64 0, .int .i64 0, .int .i64 0, .int .i64 0, .int .i64 0, .int .i64 0, .int .i64 0, .int .i64 0, .int .i64 0, .int .i64 0] w1
  have hA : Below w1.heap.size w1 W2 := by rw [← hW2]; exact (Below.refl _ _).alloc (Nat.le_refl _) _
  have qR := qR.below hA
  have hB := hB.trans (hA.mono hB.size)
  have hb2w : w.heap.size + 2 ≤ b2 := by omega
  have hb2l := qM.lt
  have z0 : W2.cell? ⟨b2, 0, none⟩ = some (.int .i64 0) := qM.at rfl
  have f0 := qM.free 0
  have z1 : W2.cell? ⟨b2, 1, none⟩ = some (.int .i64 0) := qM.at rfl
  have f1 := qM.free 1
  have z2 : W2.cell? ⟨b2, 2, none⟩ = some (.int .i64 0) := qM.at rfl
  have f2 := qM.free 2
  have z3 : W2.cell? ⟨b2, 3, none⟩ = some (.int .i64 0) := qM.at rfl
  have f3 := qM.free 3
  have z4 : W2.cell? ⟨b2, 4, none⟩ = some (.int .i64 0) := qM.at rfl
  have f4 := qM.free 4
  have z5 : W2.cell? ⟨b2, 5, none⟩ = some (.int .i64 0) := qM.at rfl
  have f5 := qM.free 5
  have z6 : W2.cell? ⟨b2, 6, none⟩ = some (.int .i64 0) := qM.at rfl
  have f6 := qM.free 6
  have z7 : W2.cell? ⟨b2, 7, none⟩ = some (.int .i64 0) := qM.at rfl
  have f7 := qM.free 7
  have z8 : W2.cell? ⟨b2, 8, none⟩ = some (.int .i64 0) := qM.at rfl
  have f8 := qM.free 8
  have z9 : W2.cell? ⟨b2, 9, none⟩ = some (.int .i64 0) := qM.at rfl
  have f9 := qM.free 9
  have z10 : W2.cell? ⟨b2, 10, none⟩ = some (.int .i64 0) := qM.at rfl
  have f10 := qM.free 10
  have z11 : W2.cell? ⟨b2, 11, none⟩ = some (.int .i64 0) := qM.at rfl
  have f11 := qM.free 11
  obtain ⟨VF, hVF, qF, hsF, hkp, hF⟩ := put12 (w := w) (B := w.heap.size) (b := b2) (w1 := W2) (v0 := .int .i64 p) (v1 := .int .i64 r0) (v2 := .int .i64 r1) (v3 := .int .i64 r2) (v4 := .int .i64 r3) (v5 := .int .i64 s0) (v6 := .int .i64 s1) (v7 := .int .i64 s2) (v8 := .int .i64 n0) (v9 := .int .i64 n1) (v10 := .int .i64 n2) (v11 := .int .i64 n3) qM (by omega) hB
  clear hA
  go_upto_region 3 with fail
  try rw [hVF]
  clear hVF hW2 hb2 qM z0 f0 z1 f1 z2 f2 z3 f3 z4 f4 z5 f5 z6 f6 z7 f7 z8 f8 z9 f9 z10 f10 z11 f11
  have qR := Blk.far qR (hkp _ (by omega))
  have hB := hF
  have hz : b2 + 1 ≤ VF.heap.size := by omega
  clear hsF hkp hF
  obtain ⟨V4, hV4⟩ : ∃ V4, VF.drew = V4 := ⟨_, rfl⟩
  have qM := qF.drew
  have qR := qR.drew
  have hB := gbelow_drewN hB 1
  rw [hV4] at qM qR
  replace hB : Below w.heap.size w V4 := by rw [← hV4]; exact hB
  replace hz : b2 + 1 ≤ V4.heap.size := by rw [← hV4]; exact hz
  have s9 : V4.cell? ⟨b2, 0, none⟩ = some (.int .i64 p) ∧ V4.cell? ⟨b2, 1, none⟩ = some (.int .i64 r0) ∧ V4.cell? ⟨b2, 2, none⟩ = some (.int .i64 r1) ∧ V4.cell? ⟨b2, 3, none⟩ = some (.int .i64 r2) ∧ V4.cell? ⟨b2, 4, none⟩ = some (.int .i64 r3) ∧ V4.cell? ⟨b2, 5, none⟩ = some (.int .i64 s0) ∧ V4.cell? ⟨b2, 6, none⟩ = some (.int .i64 s1) ∧ V4.cell? ⟨b2, 7, none⟩ = some (.int .i64 s2) ∧ V4.cell? ⟨b2, 8, none⟩ = some (.int .i64 n0) ∧ V4.cell? ⟨b2, 9, none⟩ = some (.int .i64 n1) ∧ V4.cell? ⟨b2, 10, none⟩ = some (.int .i64 n2) ∧ V4.cell? ⟨b2, 11, none⟩ = some (.int .i64 n3) := ⟨qM.at rfl, qM.at rfl, qM.at rfl, qM.at rfl, qM.at rfl, qM.at rfl, qM.at rfl, qM.at rfl, qM.at rfl, qM.at rfl, qM.at rfl, qM.at rfl⟩
  refine wp_region_noPanic ?_
  refine wp_region_held_drew (S := (fun w' => w'.cell? ⟨b2, 0, none⟩ = some (.int .i64 p) ∧ w'.cell? ⟨b2, 1, none⟩ = some (.int .i64 r0) ∧ w'.cell? ⟨b2, 2, none⟩ = some (.int .i64 r1) ∧ w'.cell? ⟨b2, 3, none⟩ = some (.int .i64 r2) ∧ w'.cell? ⟨b2, 4, none⟩ = some (.int .i64 r3) ∧ w'.cell? ⟨b2, 5, none⟩ = some (.int .i64 s0) ∧ w'.cell? ⟨b2, 6, none⟩ = some (.int .i64 s1) ∧ w'.cell? ⟨b2, 7, none⟩ = some (.int .i64 s2) ∧ w'.cell? ⟨b2, 8, none⟩ = some (.int .i64 n0) ∧ w'.cell? ⟨b2, 9, none⟩ = some (.int .i64 n1) ∧ w'.cell? ⟨b2, 10, none⟩ = some (.int .i64 n2) ∧ w'.cell? ⟨b2, 11, none⟩ = some (.int .i64 n3))) (by kernel_rfl) (by rw [hV4]; exact s9) (fun hHeld => ?_)
  rw [hV4]
  clear hV4
  refine wpAnyH_take (i := 0) (v := ?vy0) (List.getElem?_toArray.trans rfl) (by kernel_rfl) (by kernel_rfl) (by kernel_rfl) (fun _ _ _ h => h) (Or.inl ⟨by rfl, ?yy0⟩) (by assumption) ?ry0
  case yy0 => (intro w hSw; (try dsimp only at hSw); go_simp; try with_reducible rfl)
  try simp only [Act.put, List.setIfInBounds_toArray, List.set_cons_zero, List.set_cons_succ]
  refine wpAnyH_take (i := 1) (v := ?vy1) (List.getElem?_toArray.trans rfl) (by kernel_rfl) (by kernel_rfl) (by kernel_rfl) (fun _ _ _ h => h) (Or.inl ⟨by rfl, ?yy1⟩) (by assumption) ?ry1
  case yy1 => (intro w hSw; (try dsimp only at hSw); go_simp; try with_reducible rfl)
  try simp only [Act.put, List.setIfInBounds_toArray, List.set_cons_zero, List.set_cons_succ]
  refine wpAnyH_take (i := 2) (v := ?vy2) (List.getElem?_toArray.trans rfl) (by kernel_rfl) (by kernel_rfl) (by kernel_rfl) (fun _ _ _ h => h) (Or.inl ⟨by rfl, ?yy2⟩) (by assumption) ?ry2
  case yy2 => (intro w hSw; (try dsimp only at hSw); go_simp; try with_reducible rfl)
  try simp only [Act.put, List.setIfInBounds_toArray, List.set_cons_zero, List.set_cons_succ]
  refine wpAnyH_ready (rs := [3]) (by kernel_rfl) (by simp) ?_
  refine AllReadyH.cons (List.getElem?_toArray.trans rfl) (fun K hK => ?_) AllReadyH.nil
  go_simp
  go_at_call 44
  refine (hN V4 hB).mono ?_
  rintro e w2 ⟨rfl, hb⟩
  have qR := qR.below hb
  have qM := qM.below hb
  have hB := hB.trans (hb.mono hB.size)
  have hz := Nat.le_trans hz hb.size
  clear hb
  have s9 : w2.cell? ⟨b2, 0, none⟩ = some (.int .i64 p) ∧ w2.cell? ⟨b2, 1, none⟩ = some (.int .i64 r0) ∧ w2.cell? ⟨b2, 2, none⟩ = some (.int .i64 r1) ∧ w2.cell? ⟨b2, 3, none⟩ = some (.int .i64 r2) ∧ w2.cell? ⟨b2, 4, none⟩ = some (.int .i64 r3) ∧ w2.cell? ⟨b2, 5, none⟩ = some (.int .i64 s0) ∧ w2.cell? ⟨b2, 6, none⟩ = some (.int .i64 s1) ∧ w2.cell? ⟨b2, 7, none⟩ = some (.int .i64 s2) ∧ w2.cell? ⟨b2, 8, none⟩ = some (.int .i64 n0) ∧ w2.cell? ⟨b2, 9, none⟩ = some (.int .i64 n1) ∧ w2.cell? ⟨b2, 10, none⟩ = some (.int .i64 n2) ∧ w2.cell? ⟨b2, 11, none⟩ = some (.int .i64 n3) := ⟨qM.at rfl, qM.at rfl, qM.at rfl, qM.at rfl, qM.at rfl, qM.at rfl, qM.at rfl, qM.at rfl, qM.at rfl, qM.at rfl, qM.at rfl, qM.at rfl⟩
  refine hK.out _ _ s9 (fun hHeld => ?_)
  clear hK K
  try simp only [Act.put, List.setIfInBounds_toArray, List.set_cons_zero, List.set_cons_succ]
  refine wpAnyH_ready (rs := [4]) (by kernel_rfl) (by simp) ?_
  refine AllReadyH.cons (List.getElem?_toArray.trans rfl) (fun K hK => ?_) AllReadyH.nil
  go_simp
  go_at_call 47
  refine (hWt w2).mono ?_
  rintro e w3 ⟨rfl, hb⟩
  have qR := qR.below hb
  have qM := qM.below hb
  have hB := hB.trans (hb.mono hB.size)
  have hz := Nat.le_trans hz hb.size
  clear hb
  have s9 : w3.cell? ⟨b2, 0, none⟩ = some (.int .i64 p) ∧ w3.cell? ⟨b2, 1, none⟩ = some (.int .i64 r0) ∧ w3.cell? ⟨b2, 2, none⟩ = some (.int .i64 r1) ∧ w3.cell? ⟨b2, 3, none⟩ = some (.int .i64 r2) ∧ w3.cell? ⟨b2, 4, none⟩ = some (.int .i64 r3) ∧ w3.cell? ⟨b2, 5, none⟩ = some (.int .i64 s0) ∧ w3.cell? ⟨b2, 6, none⟩ = some (.int .i64 s1) ∧ w3.cell? ⟨b2, 7, none⟩ = some (.int .i64 s2) ∧ w3.cell? ⟨b2, 8, none⟩ = some (.int .i64 n0) ∧ w3.cell? ⟨b2, 9, none⟩ = some (.int .i64 n1) ∧ w3.cell? ⟨b2, 10, none⟩ = some (.int .i64 n2) ∧ w3.cell? ⟨b2, 11, none⟩ = some (.int .i64 n3) := ⟨qM.at rfl, qM.at rfl, qM.at rfl, qM.at rfl, qM.at rfl, qM.at rfl, qM.at rfl, qM.at rfl, qM.at rfl, qM.at rfl, qM.at rfl, qM.at rfl⟩
  refine hK.out _ _ s9 (fun hHeld => ?_)
  clear hK K
  try simp only [Act.put, List.setIfInBounds_toArray, List.set_cons_zero, List.set_cons_succ]
  refine wpAnyH_ready (rs := [5]) (by kernel_rfl) (by simp) ?_
  refine AllReadyH.cons (List.getElem?_toArray.trans rfl) (fun K hK => ?_) AllReadyH.nil
  have z0 : w3.cell? ⟨w.heap.size + 1, 0, none⟩ = some (.int .i64 0) := qR.at rfl
  have f0 := qR.free 0
  have z1 : w3.cell? ⟨w.heap.size + 1, 1, none⟩ = some (.int .i64 0) := qR.at rfl
  have f1 := qR.free 1
  have z2 : w3.cell? ⟨w.heap.size + 1, 2, none⟩ = some (.int .i64 0) := qR.at rfl
  have f2 := qR.free 2
  have z3 : w3.cell? ⟨w.heap.size + 1, 3, none⟩ = some (.int .i64 0) := qR.at rfl
  have f3 := qR.free 3
  obtain ⟨V, hV⟩ : ∃ V, ((((w3.setCell ⟨w.heap.size + 1, 0, none⟩ (.int .i64 q0)).setCell ⟨w.heap.size + 1, 1, none⟩ (.int .i64 q1)).setCell ⟨w.heap.size + 1, 2, none⟩ (.int .i64 q2)).setCell ⟨w.heap.size + 1, 3, none⟩ (.int .i64 q3)) = V := ⟨_, rfl⟩
  have qF := ((((qR.set 0 (.int .i64 q0)).set 1 (.int .i64 q1)).set 2 (.int .i64 q2)).set 3 (.int .i64 q3))
  simp only [List.set_cons_zero, List.set_cons_succ] at qF
  have hF := ((((hB.setCell (p := ⟨w.heap.size + 1, 0, none⟩) (Nat.le_add_right _ _) (.int .i64 q0)).setCell (p := ⟨w.heap.size + 1, 1, none⟩) (Nat.le_add_right _ _) (.int .i64 q1)).setCell (p := ⟨w.heap.size + 1, 2, none⟩) (Nat.le_add_right _ _) (.int .i64 q2)).setCell (p := ⟨w.heap.size + 1, 3, none⟩) (Nat.le_add_right _ _) (.int .i64 q3))
  rw [hV] at qF hF
  have hkp : ∀ t, t ≠ w.heap.size + 1 → V.heap[t]? = w3.heap[t]? := fun t hne => by rw [← hV, heap_setCell_other _ _ t _ (by dsimp only; omega), heap_setCell_other _ _ t _ (by dsimp only; omega), heap_setCell_other _ _ t _ (by dsimp only; omega), heap_setCell_other _ _ t _ (by dsimp only; omega)]
  have hzV : w.heap.size + 2 ≤ V.heap.size := qF.lt
  go_simp
  try rw [hV]
  have qM := Blk.far qM (hkp _ (by omega))
  clear hV hkp z0 f0 z1 f1 z2 f2 z3 f3
  have s9 : V.cell? ⟨b2, 0, none⟩ = some (.int .i64 p) ∧ V.cell? ⟨b2, 1, none⟩ = some (.int .i64 r0) ∧ V.cell? ⟨b2, 2, none⟩ = some (.int .i64 r1) ∧ V.cell? ⟨b2, 3, none⟩ = some (.int .i64 r2) ∧ V.cell? ⟨b2, 4, none⟩ = some (.int .i64 r3) ∧ V.cell? ⟨b2, 5, none⟩ = some (.int .i64 s0) ∧ V.cell? ⟨b2, 6, none⟩ = some (.int .i64 s1) ∧ V.cell? ⟨b2, 7, none⟩ = some (.int .i64 s2) ∧ V.cell? ⟨b2, 8, none⟩ = some (.int .i64 n0) ∧ V.cell? ⟨b2, 9, none⟩ = some (.int .i64 n1) ∧ V.cell? ⟨b2, 10, none⟩ = some (.int .i64 n2) ∧ V.cell? ⟨b2, 11, none⟩ = some (.int .i64 n3) := ⟨qM.at rfl, qM.at rfl, qM.at rfl, qM.at rfl, qM.at rfl, qM.at rfl, qM.at rfl, qM.at rfl, qM.at rfl, qM.at rfl, qM.at rfl, qM.at rfl⟩
  refine hK.out _ _ s9 (fun hHeld => ?_)
  clear hK K
  try simp only [Act.put, List.setIfInBounds_toArray, List.set_cons_zero, List.set_cons_succ]
  refine wpAnyH_done (by kernel_rfl) ?_ _
  refine NoPanic.normal ?_
  clear s9
  go_wp2
  refine leaves_cons (f := 46) (args := #[.pointer (some ⟨w.heap.size + 1, 0, none⟩)]) (by simp) (by simp [go_sem]) ?_
  refine (wantc_idle _ _).mono ?_
  rintro e u w5 ⟨rfl, rfl, hw⟩
  rw [hw]
  have g0 : V.cell? ⟨w.heap.size + 1, 0, none⟩ = some (.int .i64 q0) := qF.at rfl
  have g1 : V.cell? ⟨w.heap.size + 1, 1, none⟩ = some (.int .i64 q1) := qF.at rfl
  have g2 : V.cell? ⟨w.heap.size + 1, 2, none⟩ = some (.int .i64 q2) := qF.at rfl
  have g3 : V.cell? ⟨w.heap.size + 1, 3, none⟩ = some (.int .i64 q3) := qF.at rfl
  exact ⟨.agg #[.int .i64 q0, .int .i64 q1, .int .i64 q2, .int .i64 q3], by simp [results, Try.results13, go_sem, g0, g1, g2, g3], rfl, hF⟩

theorem want_impl (lo hi : Nat) (w : World) (A : Option Addr) (c : Nat) (l : List TOp) (hl : Lies lo hi w (dOp l) (.slice A l.length c)) (hh : hi ≤ w.heap.size) (hm : l.length ≤ 1048576) (P : TState) (a1 : Option Addr) (c1 : Nat) (a2 : Option Addr) (c2 : Nat) (a3 : Option Addr) (c3 : Nat) (h : St w P a1 c1 a2 c2 a3 c3) (hm1 : P.f1.length ≤ 1048576) (hm2 : P.f2.length ≤ 1048576) (hm3 : P.f3.length ≤ 1048576) :
    Calls Try.prog 13 #[.slice A l.length c, .agg #[.int .i64 P.f0, .slice a1 P.f1.length c1, .slice a2 P.f2.length c2, .slice a3 P.f3.length c3]] w fun e w' => e = .returned (.agg #[.int .i64 (wantOf l P).f0, .int .i64 (wantOf l P).f1.f0, .int .i64 (wantOf l P).f1.f1, .int .i64 (wantOf l P).f1.f2]) ∧ Below w.heap.size w w' := by
  cases hs : stateB P with
  | false =>
    rw [want_no (by unfold canB; rw [hs]; simp)]
    exact want_bad w A l.length c P a1 c1 a2 c2 a3 c3 h hm1 hm2 hm3 hs
  | true =>
    obtain ⟨hc1, hc2, hc3, hp0, _⟩ := state_at hs
    have l1 : P.f1.length = 4 := by have := (cellsB_at hc1).1; omega
    have l2 : P.f2.length = 3 := by have := (cellsB_at hc2).1; omega
    have l3 : P.f3.length = 4 := by have := (cellsB_at hc3).1; omega
    obtain ⟨p, f1, f2, f3⟩ := P
    dsimp only at l1 l2 l3 hp0
    obtain ⟨r0, r1, r2, r3, rfl⟩ := four l1
    obtain ⟨s0, s1, s2, rfl⟩ := three l2
    obtain ⟨n0, n1, n2, n3, rfl⟩ := four l3
    have hno : ∀ W : World, Below w.heap.size w W → (scriptB l = false ∨ (l.length : Int) ≤ p) → _ := fun W hb hx => step_of_no lo hi W A c l (hl.below hb) (Nat.le_trans hh hb.size) hm p r0 r1 r2 r3 s0 s1 s2 n0 n1 n2 n3 hx
    by_cases hx : scriptB l = false ∨ (l.length : Int) ≤ p
    · have hcan : canB l ⟨p, [r0, r1, r2, r3], [s0, s1, s2], [n0, n1, n2, n3]⟩ = false := by
        unfold canB
        rcases hx with hx | hx
        · rw [hx]; rfl
        · rw [decide_eq_false (by dsimp only; omega)]; simp
      rw [want_no hcan]
      exact want_none w A l.length c p r0 r1 r2 r3 s0 s1 s2 n0 n1 n2 n3 a1 c1 a2 c2 a3 c3 h hs (fun W hb => hno W hb hx)
    · have hsc : scriptB l = true := by cases e : scriptB l with
        | true => rfl
        | false => exact absurd (Or.inl e) hx
      have hlt : p < (l.length : Int) := by
        rcases Int.lt_or_le p (l.length : Int) with e | e
        · exact e
        · exact absurd (Or.inr e) hx
      have hcan : canB l ⟨p, [r0, r1, r2, r3], [s0, s1, s2], [n0, n1, n2, n3]⟩ = true := by unfold canB; rw [hsc, hs, decide_eq_true (by dsimp only; exact hlt)]; rfl
      rw [want_can hcan]
      have hok := (op_at hcan).1
      have hr : ∀ i, 0 ≤ [r0, r1, r2, r3].getD i 0 ∧ [r0, r1, r2, r3].getD i 0 ≤ 999 := fun i => by
        rcases Nat.lt_or_ge i 4 with e | e
        · exact cellsB_get hc1 (j := i) e
        · rw [List.getD_eq_getElem?_getD, List.getElem?_eq_none (by simpa using e)]; simp
      exact want_some w A l.length c p r0 r1 r2 r3 s0 s1 s2 n0 n1 n2 n3 a1 c1 a2 c2 a3 c3 h hs (opAt l ⟨p, [r0, r1, r2, r3], [s0, s1, s2], [n0, n1, n2, n3]⟩) _ _ _ _
        (fun W hb => step_of_yes lo hi W A c l (hl.below hb) (Nat.le_trans hh hb.size) hm p r0 r1 r2 r3 s0 s1 s2 n0 n1 n2 n3 hsc hp0 hlt _ rfl)
        (fun W => wanted_impl W p r0 r1 r2 r3 s0 s1 s2 n0 n1 n2 n3 (opAt l ⟨p, [r0, r1, r2, r3], [s0, s1, s2], [n0, n1, n2, n3]⟩) hr hok)
end Go.Proofs.Ytbohkohccnieiaa.Mach
