/-
  The machine, the model: the first state, whose rows may be written and appended to.
  Conditions: none.
-/
import Derived.Test.YtbohkohccnieiaaMachMath
import Derived.Test.YtbohkohccnieiaaRw
import Derived.Test.YtbohkohccnieiaaInts
namespace Go.Proofs.Ytbohkohccnieiaa.Mach
open Go Go.RowKit Go.Proofs.Ytbohkohccnieiaa.Mem Go.Proofs.Ytbohkohccnieiaa.Gen

theorem zeros_wfO {n : Nat} : ∀ z ∈ List.replicate n (0 : Int), (Lit.int .i64 z).wf = true := fun z hz => by
  rw [List.mem_replicate] at hz
  rw [hz.2]; decide

set_option maxHeartbeats 800000 in
set_option maxRecDepth 100000 in
theorem zeros_own (n : Nat) (w : World) (hn : n ≤ 1000) :
    Calls Try.prog 52 #[.int .i64 (n : Int)] w fun e w' => ∃ v, e = .returned v ∧ OwnI .i64 3 w.heap.size w' v n (List.replicate n 0) ∧ Below w.heap.size w w' := by
  obtain ⟨i0, hi0, hz0, hz1, hz2⟩ := info_parts Nts.info
  have hB0 : Below w.heap.size w (w.alloc (.cells #[] 3)) := (Below.refl _ _).alloc (Nat.le_refl _) _
  have hs0 := OwnI.made .i64 3 (base := w.heap.size) w (Nat.le_refl _)
  go_enter Try.func52, Try.ntmps52
  go_wp2
  go_loopw [3, 4] (fun v i wr => ∃ j : Nat, j ≤ n ∧ i = .int .i64 j ∧ OwnI .i64 3 w.heap.size wr v j (List.replicate j 0) ∧ Below w.heap.size w wr) (fun _ i _ => n - (Go.RowKit.intOf i).toNat)
  case atStart => exact ⟨0, Nat.zero_le _, rfl, hs0, hB0⟩
  case round =>
    obtain ⟨j, hj, rfl, ho, hbl⟩ := hrel
    clear hs0 hB0
    by_cases hlt : j < n
    · have hB := hbl.alloc hbl.size (.cells #[.int .i64 0] 3)
      have ho2 := ho.alloc (.cells #[.int .i64 0] 3)
      have HR := Lib.hid (show List.replicate j (0 : Int) ++ [0] = List.replicate (j + 1) 0 by rw [← List.replicate_succ'])
      obtain ⟨zs, hzs⟩ : ∃ zs, List.replicate j (0 : Int) = zs := ⟨_, rfl⟩
      rw [hzs] at ho2 HR
      clear ho hzs
      go_wp2_with (at_builtin; refine wpList_append_one rfl _ _ 25 rfl w.heap.size 3 i0 _ 8 Try.underlying25 hi0 hz0 hz1 hz2 rfl _ j zs rfl ho2 wr.heap.size 1 0 rfl ?c2 ?c3 ?c4 ?c5 ?_; (case c2 => rw [World.cell?_alloc_at _ _ _ _ rfl]; rfl); (case c3 => unfold maxLen; omega); (case c4 => omega); (case c5 => exact hB.size); intro v2 w2 ho3 hb3)
      go_roundw
      case rel => exact ⟨j + 1, by omega, by go_num, by rw [← HR.out]; exact ho3, hB.trans hb3⟩
      case measure => simp [Go.RowKit.intOf]; omega
    · have hd : decide ((j : Int) < (n : Int)) = false := by simp; omega
      obtain rfl : j = n := by omega
      go_wp2
      go_ret
      exact ⟨_, rfl, ho, hbl⟩

set_option maxHeartbeats 1600000 in
set_option maxRecDepth 100000 in
/-- The first state, its rows each in a block alone. -/
def FirstS (w : World) (e : Ending) (w' : World) : Prop :=
  ∃ p1 c1 p2 c2 p3 c3, e = .returned (.agg #[.int .i64 0, .slice (some ⟨p1, 0, none⟩) 4 c1, .slice (some ⟨p2, 0, none⟩) 3 c2, .slice (some ⟨p3, 0, none⟩) 4 c3]) ∧
    w.heap.size ≤ p1 ∧ p1 < p2 ∧ p2 < p3 ∧ Rw p1 c1 w' 4 [0, 0, 0, 0] ∧ Rw p2 c2 w' 3 [0, 0, 0] ∧ Rw p3 c3 w' 4 [0, 0, 0, 0] ∧ Below w.heap.size w w'
theorem start_own (w : World) : Calls Try.prog 21 #[] w (FirstS w) := by
  obtain ⟨W1, hW1⟩ : ∃ W1, w.alloc (.cells #[.int .i64 0, .slice none 0 0, .slice none 0 0, .slice none 0 0] 27) = W1 := ⟨_, rfl⟩
  have h1 : Below w.heap.size w W1 := by rw [← hW1]; exact (Below.refl _ _).alloc (Nat.le_refl _) _
  have qR : Blk 27 w.heap.size [.int .i64 0, .slice none 0 0, .slice none 0 0, .slice none 0 0] W1 := by rw [← hW1]; exact Blk.new _ [_, _, _, _] w
  have hs1 := qR.lt
  have k1 := zeros_own 4 W1 (by omega)
  have k2 := fun W => zeros_own 3 W (by omega)
  have k3 := fun W => zeros_own 4 W (by omega)
  have HW := Lib.hid hW1
  clear hW1
  go_enter Try.func21, Try.ntmps21
  go_upto_region 1 with fail
  rw [HW.out]
  go_wp2_with fail
  go_at_call 52
  refine k1.mono ?_
  rintro e w1 ⟨u1, rfl, v1, hb1⟩
  obtain ⟨p1, y1, rfl, l1, o1⟩ := Rw.of v1 (by omega)
  have n1 := o1.lt
  go_wp2_with fail
  go_at_call 52
  refine (k2 _).mono ?_
  rintro e w2 ⟨u2, rfl, v2, hb2⟩
  obtain ⟨p2, y2, rfl, l2, o2⟩ := Rw.of v2 (by omega)
  have n2 := o2.lt
  go_wp2_with fail
  go_at_call 52
  refine (k3 _).mono ?_
  rintro e w3 ⟨u3, rfl, v3, hb3⟩
  obtain ⟨p3, y3, rfl, l3, o3⟩ := Rw.of v3 (by omega)
  have n3 := o3.lt
  have z1 := hb1.size
  have z2 := hb2.size
  have z3 := hb3.size
  have qR := ((qR.below hb1).below hb2).below hb3
  have o1 := (o1.below hb2).below hb3
  have o2 := o2.below hb3
  have hB := ((h1.trans (hb1.mono h1.size)).trans (hb2.mono (by omega))).trans (hb3.mono (by omega))
  have s0 := qR.at (x := 0) rfl
  have s1 := qR.at (x := 1) rfl
  have s2 := qR.at (x := 2) rfl
  have s3 := qR.at (x := 3) rfl
  have t0 := qR.free 0
  have t1 := qR.free 1
  have t2 := qR.free 2
  have t3 := qR.free 3
  have qF := (((qR.set 0 (.int .i64 0)).set 1 (.slice (some ⟨p1, 0, none⟩) 4 y1)).set 2 (.slice (some ⟨p2, 0, none⟩) 3 y2)).set 3 (.slice (some ⟨p3, 0, none⟩) 4 y3)
  simp only [List.set_cons_zero, List.set_cons_succ] at qF
  have hkeep : ∀ t, t ≠ w.heap.size → ((((w3.setCell ⟨w.heap.size, 0, none⟩ (.int .i64 0)).setCell ⟨w.heap.size, 1, none⟩ (.slice (some ⟨p1, 0, none⟩) 4 y1)).setCell ⟨w.heap.size, 2, none⟩ (.slice (some ⟨p2, 0, none⟩) 3 y2)).setCell ⟨w.heap.size, 3, none⟩ (.slice (some ⟨p3, 0, none⟩) 4 y3)).heap[t]? = w3.heap[t]? := fun t hne => by
    rw [heap_setCell_other _ _ t _ (by dsimp only; omega), heap_setCell_other _ _ t _ (by dsimp only; omega), heap_setCell_other _ _ t _ (by dsimp only; omega), heap_setCell_other _ _ t _ (by dsimp only; omega)]
  have hFB := (((hB.setCell (p := ⟨w.heap.size, 0, none⟩) (Nat.le_refl _) (.int .i64 0)).setCell (p := ⟨w.heap.size, 1, none⟩) (Nat.le_refl _) (.slice (some ⟨p1, 0, none⟩) 4 y1)).setCell (p := ⟨w.heap.size, 2, none⟩) (Nat.le_refl _) (.slice (some ⟨p2, 0, none⟩) 3 y2)).setCell (p := ⟨w.heap.size, 3, none⟩) (Nat.le_refl _) (.slice (some ⟨p3, 0, none⟩) 4 y3)
  have hFS : ((((w3.setCell ⟨w.heap.size, 0, none⟩ (.int .i64 0)).setCell ⟨w.heap.size, 1, none⟩ (.slice (some ⟨p1, 0, none⟩) 4 y1)).setCell ⟨w.heap.size, 2, none⟩ (.slice (some ⟨p2, 0, none⟩) 3 y2)).setCell ⟨w.heap.size, 3, none⟩ (.slice (some ⟨p3, 0, none⟩) 4 y3)).heap.size = w3.heap.size := by simp only [gsize_set]
  obtain ⟨VF, hVF⟩ : ∃ VF, (((w3.setCell ⟨w.heap.size, 0, none⟩ (.int .i64 0)).setCell ⟨w.heap.size, 1, none⟩ (.slice (some ⟨p1, 0, none⟩) 4 y1)).setCell ⟨w.heap.size, 2, none⟩ (.slice (some ⟨p2, 0, none⟩) 3 y2)).setCell ⟨w.heap.size, 3, none⟩ (.slice (some ⟨p3, 0, none⟩) 4 y3) = VF := ⟨_, rfl⟩
  rw [hVF] at qF hFB hFS
  simp only [hVF] at hkeep
  have g0 := qF.at (x := 0) rfl
  have g1 := qF.at (x := 1) rfl
  have g2 := qF.at (x := 2) rfl
  have g3 := qF.at (x := 3) rfl
  have o1 := o1.keep (w' := VF) (hkeep _ (by omega))
  have o2 := o2.keep (w' := VF) (hkeep _ (by omega))
  have o3 := o3.keep (w' := VF) (hkeep _ (by omega))
  have HG := Lib.hid (show FirstS w (.returned (.agg #[.int .i64 0, .slice (some ⟨p1, 0, none⟩) 4 y1, .slice (some ⟨p2, 0, none⟩) 3 y2, .slice (some ⟨p3, 0, none⟩) 4 y3])) VF from ⟨p1, y1, p2, y2, p3, y3, rfl, by omega, by omega, by omega, o1, o2, o3, hFB⟩)
  have HVF := Lib.hid hVF
  clear hVF hkeep o1 o2 o3 hFB hFS qF k1 k2 k3
  go_wp2
  rw [HVF.out]
  refine bodyPost_ret (v := .agg #[.int .i64 0, .slice (some ⟨p1, 0, none⟩) 4 y1, .slice (some ⟨p2, 0, none⟩) 3 y2, .slice (some ⟨p3, 0, none⟩) 4 y3]) (by simp [results, Try.results21, go_sem, g0, g1, g2, g3]) rfl ?_
  exact HG.out
end Go.Proofs.Ytbohkohccnieiaa.Mach
