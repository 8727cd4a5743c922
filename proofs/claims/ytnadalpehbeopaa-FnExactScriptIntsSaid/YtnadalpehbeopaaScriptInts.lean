/-
  ScriptInts, of the program and of the model: four numbers for each step.
  Conditions: the steps lie in memory, with 2^20 numbers at most.
-/
import Derived.Test.YtnadalpehbeopaaScriptMath
import Derived.Test.YtnadalpehbeopaaStepAt
import Derived.Test.YtnadalpehbeopaaInts
import Derived.Test.YtnadalpehbeopaaBlk
import Derived.Test.YtnadalpehbeopaaOwn5
import Derived.Deep.RegionHeld3
import Derived.BigRegion
namespace Go.Proofs.Ytnadalpehbeopaa.Scripts
open Go Go.RowKit Go.Proofs.Ytnadalpehbeopaa.Mem Go.Proofs.Ytnadalpehbeopaa.Gen Go.Proofs.Ytnadalpehbeopaa.Draw

/-- The four numbers of a step, as a row that was just laid. -/
theorem four_row (P : TOp) (w : World) (h0 : (Lit.int .i64 P.f0).wf = true) (h1 : (Lit.int .i64 P.f1).wf = true) (h2 : (Lit.int .i64 P.f2).wf = true) (h3 : (Lit.int .i64 P.f3).wf = true) :
    Row .i64 w.heap.size (w.heap.size + 1) (w.alloc (.cells #[.int .i64 P.f0, .int .i64 P.f1, .int .i64 P.f2, .int .i64 P.f3] 3)) (some ⟨w.heap.size, 0, none⟩) 4 [P.f0, P.f1, P.f2, P.f3] := by
  refine ⟨rfl, ?_, fun _ => ⟨w.heap.size, 0, rfl, Nat.le_refl _, by omega, ?_⟩⟩
  · intro z hz
    simp only [List.mem_cons, List.not_mem_nil, or_false] at hz
    rcases hz with rfl | rfl | rfl | rfl
    · exact h0
    · exact h1
    · exact h2
    · exact h3
  · intro j hj
    rw [World.cell?_alloc_at _ _ _ _ rfl]
    match j, hj with
    | 0, _ => rfl
    | 1, _ => rfl
    | 2, _ => rfl
    | 3, _ => rfl
theorem nums_wf {lo hi : Nat} {w : World} {A : Option Addr} {c n : Nat} {l : List TOp} (h : Lies lo hi w (dOp l) (.slice A n c)) : ∀ j, j ≤ n → ∀ z ∈ numsTo l j, (Lit.int .i64 z).wf = true
  | 0, _, z, hz => by cases hz
  | j + 1, hj, z, hz => by
    rcases List.mem_append.1 hz with h1 | h1
    · exact nums_wf h j (by omega) z h1
    · obtain ⟨_, _, _, _, _, _, w0, w1, w2, w3, _⟩ := at_Op h (show j < n by omega)
      simp only [List.mem_cons, List.not_mem_nil, or_false] at h1
      rcases h1 with rfl | rfl | rfl | rfl
      · exact w0
      · exact w1
      · exact w2
      · exact w3

set_option maxHeartbeats 1600000 in
set_option maxRecDepth 100000 in
theorem ints_impl (lo hi : Nat) (w : World) (A : Option Addr) (c : Nat) (l : List TOp) (h : Lies lo hi w (dOp l) (.slice A l.length c)) (hh : hi ≤ w.heap.size) (hm : l.length ≤ 1048576) :
    Calls Try.prog 16 #[.slice A l.length c] w (Slice .i64 w.heap.size (4 * l.length) (numsTo l l.length) w) := by
  obtain ⟨i0, hi0, hz0, hz1, hz2⟩ := info_parts Nts.info
  obtain ⟨n, hn⟩ : ∃ n, l.length = n := ⟨_, rfl⟩
  rw [hn] at h hm ⊢
  clear hn
  have hwf := nums_wf h n (Nat.le_refl _)
  have hB0 : Below w.heap.size w (w.alloc (.cells #[] 3)) := (Below.refl _ _).alloc (Nat.le_refl _) _
  have hs0 := OwnI.lit .i64 3 (base := w.heap.size) w [] (Nat.le_refl _) (by unfold maxLen; simp)
  simp only [List.map_nil, List.length_nil] at hs0
  have HWF := Lib.hid hwf
  clear hwf
  go_enter Try.func16, Try.ntmps16
  go_wp2
  go_loopw [3, 9] (fun v i wr => ∃ (j m : Nat), j ≤ n ∧ m = 4 * j ∧ i = .int .i64 j ∧ OwnI .i64 3 w.heap.size wr v m (numsTo l j) ∧ Below w.heap.size w wr) (fun _ i _ => n - (Go.RowKit.intOf i).toNat)
  case atStart => exact ⟨0, 0, Nat.zero_le _, rfl, rfl, hs0, hB0⟩
  case round =>
    obtain ⟨j, m, hj, hmj, rfl, ho, hbl⟩ := hrel
    clear hs0 hB0
    have hbs := hbl.size
    have HM := Lib.hid hmj
    by_cases hlt : j < n
    · obtain ⟨b, off, rfl, _, _, hc, w0, w1, w2, w3, _⟩ := at_Op (h.under hbl hh) hlt
      have HS := Lib.hid (show numsTo l (j + 1) = numsTo l j ++ [(l.getD j nOp).f0, (l.getD j nOp).f1, (l.getD j nOp).f2, (l.getD j nOp).f3] from rfl)
      obtain ⟨P, hP⟩ : ∃ P, l.getD j nOp = P := ⟨_, rfl⟩
      rw [hP] at hc HS w0 w1 w2 w3
      obtain ⟨c0, c1, c2, c3⟩ := hc
      have hB := hbl.alloc hbs (.cells #[.int .i64 P.f0, .int .i64 P.f1, .int .i64 P.f2, .int .i64 P.f3] 28)
      have hB2 := hB.alloc hB.size (.cells #[.int .i64 P.f0, .int .i64 P.f1, .int .i64 P.f2, .int .i64 P.f3] 3)
      have hr := four_row P (wr.alloc (.cells #[.int .i64 P.f0, .int .i64 P.f1, .int .i64 P.f2, .int .i64 P.f3] 28)) w0 w1 w2 w3
      rw [gsize_alloc] at hr
      have ho2 := (ho.alloc (.cells #[.int .i64 P.f0, .int .i64 P.f1, .int .i64 P.f2, .int .i64 P.f3] 28)).alloc (.cells #[.int .i64 P.f0, .int .i64 P.f1, .int .i64 P.f2, .int .i64 P.f3] 3)
      have hm4 : m ≤ 4194304 := by omega
      clear hmj hP ho
      go_wp2_with (at_builtin; refine wpList_append_row rfl _ _ 33 rfl w.heap.size 3 i0 _ 8 Try.underlying33 hi0 hz0 hz1 hz2 rfl _ m (numsTo l j) rfl ho2 _ _ _ 4 _ [P.f0, P.f1, P.f2, P.f3] rfl hr ?c1 ?c2 ?c3 ?_; (case c1 => unfold maxLen; omega); (case c2 => omega); (case c3 => exact hB2.size); intro v2 w2 ho3 hb3)
      go_roundw
      case rel => exact ⟨j + 1, m + 4, by omega, by have := HM.out; omega, by go_num, by rw [HS.out]; exact ho3, hB2.trans hb3⟩
      case measure => simp [Go.RowKit.intOf]; omega
    · have hd : decide ((j : Int) < (n : Int)) = false := by simp; omega
      obtain rfl : j = n := by omega
      obtain ⟨a2, c2, rfl, h1, h2, h3⟩ := ho.own HWF.out
      go_wp2
      go_ret
      subst hmj
      exact ⟨a2, c2, rfl, h3, h1, h2, hbl⟩

set_option maxHeartbeats 1600000 in
set_option maxRecDepth 100000 in
theorem ints_spec (lo hi : Nat) (w : World) (A : Option Addr) (c : Nat) (l : List TOp) (h : Lies lo hi w (dOp l) (.slice A l.length c)) (hh : hi ≤ w.heap.size) (hm : l.length ≤ 1048576) :
    Calls Try.prog 23 #[.slice A l.length c] w (Slice .i64 w.heap.size (4 * l.length) (numsTo l l.length) w) := by
  obtain ⟨i0, hi0, hz0, hz1, hz2⟩ := info_parts Nts.info
  obtain ⟨n, hn⟩ : ∃ n, l.length = n := ⟨_, rfl⟩
  rw [hn] at h hm ⊢
  clear hn
  have hwf := nums_wf h n (Nat.le_refl _)
  have hB0 : Below w.heap.size w (w.alloc (.cells #[] 3)) := (Below.refl _ _).alloc (Nat.le_refl _) _
  have hs0 := OwnI.lit .i64 3 (base := w.heap.size) w [] (Nat.le_refl _) (by unfold maxLen; simp)
  simp only [List.map_nil, List.length_nil] at hs0
  have HWF := Lib.hid hwf
  clear hwf
  go_enter Try.func23, Try.ntmps23
  go_wp2
  go_loopw [3, 4] (fun v i wr => ∃ (j m : Nat), j ≤ n ∧ m = 4 * j ∧ i = .int .i64 j ∧ OwnI .i64 3 w.heap.size wr v m (numsTo l j) ∧ Below w.heap.size w wr) (fun _ i _ => n - (Go.RowKit.intOf i).toNat)
  case atStart => exact ⟨0, 0, Nat.zero_le _, rfl, rfl, hs0, hB0⟩
  case round =>
    obtain ⟨j, m, hj, hmj, rfl, ho, hbl⟩ := hrel
    clear hs0 hB0
    have hbs := hbl.size
    have HM := Lib.hid hmj
    by_cases hlt : j < n
    · obtain ⟨b, off, rfl, _, hbhi, hc, w0, w1, w2, w3, _⟩ := at_Op (h.under hbl hh) hlt
      have HS := Lib.hid (show numsTo l (j + 1) = numsTo l j ++ [(l.getD j nOp).f0, (l.getD j nOp).f1, (l.getD j nOp).f2, (l.getD j nOp).f3] from rfl)
      obtain ⟨P, hP⟩ : ∃ P, l.getD j nOp = P := ⟨_, rfl⟩
      rw [hP] at hc HS w0 w1 w2 w3
      obtain ⟨A2, C2, rfl⟩ := ownI_shape ho
      have hs : wr.drew.cell? ⟨b, off + j * 4, none⟩ = some (.int .i64 P.f0) ∧ wr.drew.cell? ⟨b, off + j * 4 + 1, none⟩ = some (.int .i64 P.f1) ∧ wr.drew.cell? ⟨b, off + j * 4 + 2, none⟩ = some (.int .i64 P.f2) ∧ wr.drew.cell? ⟨b, off + j * 4 + 3, none⟩ = some (.int .i64 P.f3) := hc.all
      have hm4 : m ≤ 4194304 := by omega
      clear hmj hP
      go_upto_region 5 with fail
      -- REGION
      refine wp_region_held_drew (S := (fun w' => w'.cell? ⟨b, off + j * 4, none⟩ = some (.int .i64 P.f0) ∧ w'.cell? ⟨b, off + j * 4 + 1, none⟩ = some (.int .i64 P.f1) ∧ w'.cell? ⟨b, off + j * 4 + 2, none⟩ = some (.int .i64 P.f2) ∧ w'.cell? ⟨b, off + j * 4 + 3, none⟩ = some (.int .i64 P.f3))) (by kernel_rfl) hs (fun hHeld => ?_)
      refine wpAnyH_take (i := 0) (v := ?va0) (List.getElem?_toArray.trans rfl) (by kernel_rfl) (by kernel_rfl) (by kernel_rfl) (fun _ _ _ h => h) (Or.inl ⟨by rfl, ?ya0⟩) (by assumption) ?ra0
      case ya0 => (intro w hSw; (try dsimp only at hSw); go_simp; try with_reducible rfl)
      try simp only [Act.put, List.setIfInBounds_toArray, List.set_cons_zero, List.set_cons_succ]
      refine wpAnyH_take (i := 1) (v := ?va1) (List.getElem?_toArray.trans rfl) (by kernel_rfl) (by kernel_rfl) (by kernel_rfl) (fun _ _ _ h => h) (Or.inl ⟨by rfl, ?ya1⟩) (by assumption) ?ra1
      case ya1 => (intro w hSw; (try dsimp only at hSw); go_simp; try with_reducible rfl)
      try simp only [Act.put, List.setIfInBounds_toArray, List.set_cons_zero, List.set_cons_succ]
      refine wpAnyH_take (i := 2) (v := ?va2) (List.getElem?_toArray.trans rfl) (by kernel_rfl) (by kernel_rfl) (by kernel_rfl) (fun _ _ _ h => h) (Or.inl ⟨by rfl, ?ya2⟩) (by assumption) ?ra2
      case ya2 => (intro w hSw; (try dsimp only at hSw); go_simp; try with_reducible rfl)
      try simp only [Act.put, List.setIfInBounds_toArray, List.set_cons_zero, List.set_cons_succ]
      refine wpAnyH_take (i := 3) (v := ?va3) (List.getElem?_toArray.trans rfl) (by kernel_rfl) (by kernel_rfl) (by kernel_rfl) (fun _ _ _ h => h) (Or.inl ⟨by rfl, ?ya3⟩) (by assumption) ?ra3
      case ya3 => (intro w hSw; (try dsimp only at hSw); go_simp; try with_reducible rfl)
      try simp only [Act.put, List.setIfInBounds_toArray, List.set_cons_zero, List.set_cons_succ]
      refine wpAnyH_take (i := 4) (v := ?va4) (List.getElem?_toArray.trans rfl) (by kernel_rfl) (by kernel_rfl) (by kernel_rfl) (fun _ _ _ h => h) (Or.inl ⟨by rfl, ?ya4⟩) (by assumption) ?ra4
      case ya4 => (intro w hSw; (try dsimp only at hSw); go_simp; try with_reducible rfl)
      try simp only [Act.put, List.setIfInBounds_toArray, List.set_cons_zero, List.set_cons_succ]
      refine wpAnyH_take (i := 5) (v := ?va5) (List.getElem?_toArray.trans rfl) (by kernel_rfl) (by kernel_rfl) (by kernel_rfl) (fun _ _ _ h => h) (Or.inl ⟨by rfl, ?ya5⟩) (by assumption) ?ra5
      case ya5 => (intro w hSw; (try dsimp only at hSw); go_simp; try with_reducible rfl)
      try simp only [Act.put, List.setIfInBounds_toArray, List.set_cons_zero, List.set_cons_succ]
      refine wpAnyH_take (i := 6) (v := ?va6) (List.getElem?_toArray.trans rfl) (by kernel_rfl) (by kernel_rfl) (by kernel_rfl) (fun _ _ _ h => h) (Or.inl ⟨by rfl, ?ya6⟩) (by assumption) ?ra6
      case ya6 => (intro w hSw; (try dsimp only at hSw); go_simp; try with_reducible rfl)
      try simp only [Act.put, List.setIfInBounds_toArray, List.set_cons_zero, List.set_cons_succ]
      refine wpAnyH_take (i := 7) (v := ?va7) (List.getElem?_toArray.trans rfl) (by kernel_rfl) (by kernel_rfl) (by kernel_rfl) (fun _ _ _ h => h) (Or.inl ⟨by rfl, ?ya7⟩) (by assumption) ?ra7
      case ya7 => (intro w hSw; (try dsimp only at hSw); go_simp; try with_reducible rfl)
      try simp only [Act.put, List.setIfInBounds_toArray, List.set_cons_zero, List.set_cons_succ]
      refine wpAnyH_take (i := 8) (v := ?va8) (List.getElem?_toArray.trans rfl) (by kernel_rfl) (by kernel_rfl) (by kernel_rfl) (fun _ _ _ h => h) (Or.inl ⟨by rfl, ?ya8⟩) (by assumption) ?ra8
      case ya8 => (intro w hSw; (try dsimp only at hSw); go_simp; try with_reducible rfl)
      try simp only [Act.put, List.setIfInBounds_toArray, List.set_cons_zero, List.set_cons_succ]
      refine wpAnyH_take (i := 9) (v := ?va9) (List.getElem?_toArray.trans rfl) (by kernel_rfl) (by kernel_rfl) (by kernel_rfl) (fun _ _ _ h => h) (Or.inl ⟨by rfl, ?ya9⟩) (by assumption) ?ra9
      case ya9 => (intro w hSw; (try dsimp only at hSw); go_simp; try with_reducible rfl)
      try simp only [Act.put, List.setIfInBounds_toArray, List.set_cons_zero, List.set_cons_succ]
      refine wpAnyH_take (i := 10) (v := ?va10) (List.getElem?_toArray.trans rfl) (by kernel_rfl) (by kernel_rfl) (by kernel_rfl) (fun _ _ _ h => h) (Or.inl ⟨by rfl, ?ya10⟩) (by assumption) ?ra10
      case ya10 => (intro w hSw; (try dsimp only at hSw); go_simp; try with_reducible rfl)
      try simp only [Act.put, List.setIfInBounds_toArray, List.set_cons_zero, List.set_cons_succ]
      refine wpAnyH_take (i := 11) (v := ?va11) (List.getElem?_toArray.trans rfl) (by kernel_rfl) (by kernel_rfl) (by kernel_rfl) (fun _ _ _ h => h) (Or.inl ⟨by rfl, ?ya11⟩) (by assumption) ?ra11
      case ya11 => (intro w hSw; (try dsimp only at hSw); go_simp; try with_reducible rfl)
      try simp only [Act.put, List.setIfInBounds_toArray, List.set_cons_zero, List.set_cons_succ]
      refine wpAnyH_take (i := 12) (v := ?va12) (List.getElem?_toArray.trans rfl) (by kernel_rfl) (by kernel_rfl) (by kernel_rfl) (fun _ _ _ h => h) (Or.inl ⟨by rfl, ?ya12⟩) (by assumption) ?ra12
      case ya12 => (intro w hSw; (try dsimp only at hSw); go_simp; try with_reducible rfl)
      try simp only [Act.put, List.setIfInBounds_toArray, List.set_cons_zero, List.set_cons_succ]
      refine wpAnyH_take (i := 13) (v := ?va13) (List.getElem?_toArray.trans rfl) (by kernel_rfl) (by kernel_rfl) (by kernel_rfl) (fun _ _ _ h => h) (Or.inl ⟨by rfl, ?ya13⟩) (by assumption) ?ra13
      case ya13 => (intro w hSw; (try dsimp only at hSw); go_simp; try with_reducible rfl)
      try simp only [Act.put, List.setIfInBounds_toArray, List.set_cons_zero, List.set_cons_succ]
      refine wpAnyH_take (i := 14) (v := ?va14) (List.getElem?_toArray.trans rfl) (by kernel_rfl) (by kernel_rfl) (by kernel_rfl) (fun _ _ _ h => h) (Or.inl ⟨by rfl, ?ya14⟩) (by assumption) ?ra14
      case ya14 => (intro w hSw; (try dsimp only at hSw); go_simp; try with_reducible rfl)
      try simp only [Act.put, List.setIfInBounds_toArray, List.set_cons_zero, List.set_cons_succ]
      refine wpAnyH_take (i := 15) (v := ?va15) (List.getElem?_toArray.trans rfl) (by kernel_rfl) (by kernel_rfl) (by kernel_rfl) (fun _ _ _ h => h) (Or.inl ⟨by rfl, ?ya15⟩) (by assumption) ?ra15
      case ya15 => (intro w hSw; (try dsimp only at hSw); go_simp; try with_reducible rfl)
      try simp only [Act.put, List.setIfInBounds_toArray, List.set_cons_zero, List.set_cons_succ]
      refine wpAnyH_take (i := 16) (v := ?va16) (List.getElem?_toArray.trans rfl) (by kernel_rfl) (by kernel_rfl) (by kernel_rfl) (fun _ _ _ h => h) (Or.inl ⟨by rfl, ?ya16⟩) (by assumption) ?ra16
      case ya16 => (intro w hSw; (try dsimp only at hSw); go_simp; try with_reducible rfl)
      try simp only [Act.put, List.setIfInBounds_toArray, List.set_cons_zero, List.set_cons_succ]
      refine wpAnyH_take (i := 17) (v := ?va17) (List.getElem?_toArray.trans rfl) (by kernel_rfl) (by kernel_rfl) (by kernel_rfl) (fun _ _ _ h => h) (Or.inl ⟨by rfl, ?ya17⟩) (by assumption) ?ra17
      case ya17 => (intro w hSw; (try dsimp only at hSw); go_simp; try with_reducible rfl)
      try simp only [Act.put, List.setIfInBounds_toArray, List.set_cons_zero, List.set_cons_succ]
      refine wpAnyH_take (i := 18) (v := ?va18) (List.getElem?_toArray.trans rfl) (by kernel_rfl) (by kernel_rfl) (by kernel_rfl) (fun _ _ _ h => h) (Or.inl ⟨by rfl, ?ya18⟩) (by assumption) ?ra18
      case ya18 => (intro w hSw; (try dsimp only at hSw); go_simp; try with_reducible rfl)
      try simp only [Act.put, List.setIfInBounds_toArray, List.set_cons_zero, List.set_cons_succ]
      refine wpAnyH_take (i := 19) (v := ?va19) (List.getElem?_toArray.trans rfl) (by kernel_rfl) (by kernel_rfl) (by kernel_rfl) (fun _ _ _ h => h) (Or.inl ⟨by rfl, ?ya19⟩) (by assumption) ?ra19
      case ya19 => (intro w hSw; (try dsimp only at hSw); go_simp; try with_reducible rfl)
      try simp only [Act.put, List.setIfInBounds_toArray, List.set_cons_zero, List.set_cons_succ]
      refine wpAnyH_take (i := 20) (v := ?va20) (List.getElem?_toArray.trans rfl) (by kernel_rfl) (by kernel_rfl) (by kernel_rfl) (fun _ _ _ h => h) (Or.inl ⟨by rfl, ?ya20⟩) (by assumption) ?ra20
      case ya20 => (intro w hSw; (try dsimp only at hSw); go_simp; try with_reducible rfl)
      try simp only [Act.put, List.setIfInBounds_toArray, List.set_cons_zero, List.set_cons_succ]
      refine wpAnyH_ready (rs := [21]) (by kernel_rfl) (by simp) ?_
      refine AllReadyH.cons (List.getElem?_toArray.trans rfl) (fun K hK => ?_) AllReadyH.nil
      go_simp
      obtain ⟨W1, hW1⟩ : ∃ W1, (wr.alloc (.cells #[.int .i64 P.f0, .int .i64 P.f1, .int .i64 P.f2, .int .i64 P.f3] 3)).drew = W1 := ⟨_, rfl⟩
      have hA : Below wr.heap.size wr W1 := by rw [← hW1]; exact gbelow_drewN ((Below.refl _ _).alloc (Nat.le_refl _) _) 1
      have hr : Row .i64 wr.heap.size (wr.heap.size + 1) W1 (some ⟨wr.heap.size, 0, none⟩) 4 [P.f0, P.f1, P.f2, P.f3] := by rw [← hW1]; exact (four_row P wr w0 w1 w2 w3).below (gbelow_drewN (Below.refl _ _) 1)
      rw [hW1]
      have hc := COp.below hc hA
      have ho : OwnI .i64 3 w.heap.size W1 (.slice A2 m C2) m (numsTo l j) := OwnI.below ho hA
      have hbl := hbl.trans (hA.mono hbs)
      have s9 : W1.cell? ⟨b, off + j * 4, none⟩ = some (.int .i64 P.f0) ∧ W1.cell? ⟨b, off + j * 4 + 1, none⟩ = some (.int .i64 P.f1) ∧ W1.cell? ⟨b, off + j * 4 + 2, none⟩ = some (.int .i64 P.f2) ∧ W1.cell? ⟨b, off + j * 4 + 3, none⟩ = some (.int .i64 P.f3) := hc.all
      clear hA hW1
      refine hK.out _ _ s9 (fun hHeld => ?_)
      clear hK K
      try simp only [Act.put, List.setIfInBounds_toArray, List.set_cons_zero, List.set_cons_succ]
      refine wpAnyH_ready (rs := [22]) (by kernel_rfl) (by simp) ?_
      refine AllReadyH.cons (List.getElem?_toArray.trans rfl) (fun K hK => ?_) AllReadyH.nil
      refine step_append_rows_at rfl _ _ 33 rfl w.heap.size 3 i0 _ 8 Try.underlying33 hi0 hz0 hz1 hz2 rfl _ m (numsTo l j) rfl ho _ _ _ 4 _ [P.f0, P.f1, P.f2, P.f3] rfl hr ?c1 ?c2 ?c3 ?_
      case c1 => unfold maxLen; omega
      case c2 => omega
      case c3 => exact hbl.size
      intro v2 w2 ho2 hgr _
      have hA := OwnI.grown ho hgr hbl.size
      have hc := hc.keep (hA.block b (Nat.lt_of_lt_of_le hbhi hh))
      have hbl := hbl.trans hA
      have s9 : w2.cell? ⟨b, off + j * 4, none⟩ = some (.int .i64 P.f0) ∧ w2.cell? ⟨b, off + j * 4 + 1, none⟩ = some (.int .i64 P.f1) ∧ w2.cell? ⟨b, off + j * 4 + 2, none⟩ = some (.int .i64 P.f2) ∧ w2.cell? ⟨b, off + j * 4 + 3, none⟩ = some (.int .i64 P.f3) := hc.all
      clear hA hgr
      refine hK.out _ _ s9 (fun hHeld => ?_)
      clear hK K
      try simp only [Act.put, List.setIfInBounds_toArray, List.set_cons_zero, List.set_cons_succ]
      refine wpAnyH_take (i := 23) (v := ?va23) (List.getElem?_toArray.trans rfl) (by kernel_rfl) (by kernel_rfl) (by kernel_rfl) (fun _ _ _ h => h) (Or.inl ⟨by rfl, ?ya23⟩) (by assumption) ?ra23
      case ya23 => (intro w hSw; (try dsimp only at hSw); go_simp; try with_reducible rfl)
      try simp only [Act.put, List.setIfInBounds_toArray, List.set_cons_zero, List.set_cons_succ]
      refine wpAnyH_done (by kernel_rfl) ?_ _
      -- DONE
      go_wp2
      go_roundw
      case rel => exact ⟨j + 1, m + 4, by omega, by have := HM.out; omega, by go_num, by rw [HS.out]; exact ho2, hbl⟩
      case measure => simp [Go.RowKit.intOf]; omega
    · have hd : decide ((j : Int) < (n : Int)) = false := by simp; omega
      obtain rfl : j = n := by omega
      obtain ⟨a2, c2, rfl, h1, h2, h3⟩ := ho.own HWF.out
      go_wp2
      go_ret
      subst hmj
      exact ⟨a2, c2, rfl, h3, h1, h2, hbl⟩
end Go.Proofs.Ytnadalpehbeopaa.Scripts
