/-
  Sites that change: the program. Whether a site is valid; what an address has at a tick.
  Conditions: the versions lie in memory, with 2^20 numbers at most.
-/
import Derived.Test.YtagnhfalmefbhaaBacks
import Derived.Test.YtagnhfalmefbhaaPasted
import Derived.Test.YtagnhfalmefbhaaRange
import Derived.Deep.RegionHeld3
import Derived.Deep.RegionWith
import Derived.Deep.CutBlock
import Derived.Deep.DeepCutAuto
namespace Go.Proofs.Ytagnhfalmefbhaa.Sites
open Go Go.RowKit Go.Proofs.Ytagnhfalmefbhaa.Mem Go.Proofs.Ytagnhfalmefbhaa.Gen Go.Proofs.Ytagnhfalmefbhaa.Adr Go.Proofs.Ytagnhfalmefbhaa.Res Go.Proofs.Ytagnhfalmefbhaa.Range

set_option maxHeartbeats 4000000 in
set_option maxRecDepth 100000 in
theorem version_impl (lo hi : Nat) (w : World) (V : TVersion) (a : Option Addr) (c : Nat) (hr : Row .i64 lo hi w a V.f2.f1.length V.f2.f1) :
    Calls Try.prog 74 #[.agg #[.int .i64 V.f0.f0, .int .i64 V.f0.f1, .int .i64 V.f0.f2, .int .i64 V.f1, .int .i64 V.f2.f0, .slice a V.f2.f1.length c, .int .i64 V.f2.f2.f0, .int .i64 V.f2.f2.f1, .int .i64 V.f2.f2.f2]] w fun e w' => e = .returned (.bool (okV V)) ∧ Below w.heap.size w w' := by
  have hokv : okV V = (okA V.f0.f0 V.f0.f1 V.f0.f2 && (decide (0 ≤ V.f1 ∧ V.f1 ≤ 1000) && okRes V.f2)) := rfl
  obtain ⟨O, hO⟩ : ∃ O, O = Obj.cells (verCells V a c).toArray 103 (0, 0) := ⟨_, rfl⟩
  have hB0 : Below w.heap.size w (w.alloc O) := (Below.refl _ _).alloc (Nat.le_refl _) _
  have qB : Blk 103 w.heap.size (verCells V a c) (w.alloc O) := by rw [hO]; exact Blk.new _ _ w
  have hrow := hr.below hB0
  have y0 : (w.alloc O).cell? ⟨w.heap.size, 0, none⟩ = some (.int .i64 V.f0.f0) := qB.at rfl
  have y1 : (w.alloc O).cell? ⟨w.heap.size, 1, none⟩ = some (.int .i64 V.f0.f1) := qB.at rfl
  have y2 : (w.alloc O).cell? ⟨w.heap.size, 2, none⟩ = some (.int .i64 V.f0.f2) := qB.at rfl
  have hs0 : w.heap.size ≤ (w.alloc O).heap.size := hB0.size
  obtain ⟨r1, hr1⟩ : ∃ r, okA V.f0.f0 V.f0.f1 V.f0.f2 = r := ⟨_, rfl⟩
  have hA := fun W => is_impl V.f0.f0 V.f0.f1 V.f0.f2 W
  rw [hr1] at hA hokv
  have HK := Lib.hid hokv
  clear hr1 hokv
  subst hO
  simp only [verCells] at qB hB0 hs0 hrow y0 y1 y2
  cases r1 with
  | false =>
    go_enter Try.func74, Try.ntmps74
    go_wp2_with (go_at_call 94; refine (hA _).mono ?_; rintro e w1 ⟨rfl, hb1⟩)
    go_ret
    exact ⟨by rw [HK.out]; rfl, hB0.trans (hb1.mono hs0)⟩
  | true =>
  by_cases t2 : 0 ≤ V.f1 ∧ V.f1 ≤ 1000
  rotate_left
  · go_enter Try.func74, Try.ntmps74
    go_wp2_with fail
    go_at_call 94
    refine (hA _).mono ?_
    rintro e w1 ⟨rfl, hb1⟩
    have qB1 := qB.below hb1
    have y3 : w1.cell? ⟨w.heap.size, 3, none⟩ = some (.int .i64 V.f1) := qB1.at rfl
    go_wp2_with (go_at_call 37; refine (in_no V.f1 0 1000 _ (by omega)).mono ?_; rintro e w2 ⟨rfl, rfl⟩)
    go_ret
    exact ⟨by rw [HK.out]; simp [t2], hB0.trans (hb1.mono hs0)⟩
  have hR := fun W hW => valid_impl lo hi V.f2.f0 V.f2.f2.f0 V.f2.f2.f1 V.f2.f2.f2 W a V.f2.f1.length c V.f2.f1 hW
  obtain ⟨r3, hr3⟩ : ∃ r, okRes V.f2 = r := ⟨_, rfl⟩
  have hk3 := HK.out
  rw [hr3, decide_eq_true t2] at hk3
  rw [show okR V.f2.f0 V.f2.f2.f0 V.f2.f2.f1 V.f2.f2.f2 V.f2.f1.length V.f2.f1 = r3 from hr3] at hR
  have hk4 : okV V = r3 := by rw [hk3]; simp
  rw [hk4]
  clear hr3 hk3 hk4 HK
  go_enter Try.func74, Try.ntmps74
  go_wp2_with fail
  go_at_call 94
  refine (hA _).mono ?_
  rintro e w1 ⟨rfl, hb1⟩
  have qB1 := qB.below hb1
  have hrow1 := hrow.below hb1
  have hb2 := hB0.trans (hb1.mono hs0)
  have y3 : w1.cell? ⟨w.heap.size, 3, none⟩ = some (.int .i64 V.f1) := qB1.at rfl
  have y4 : w1.cell? ⟨w.heap.size, 4, none⟩ = some (.int .i64 V.f2.f0) := qB1.at rfl
  have y5 : w1.cell? ⟨w.heap.size, 5, none⟩ = some (.slice a V.f2.f1.length c) := qB1.at rfl
  have y6 : w1.cell? ⟨w.heap.size, 6, none⟩ = some (.int .i64 V.f2.f2.f0) := qB1.at rfl
  have y7 : w1.cell? ⟨w.heap.size, 7, none⟩ = some (.int .i64 V.f2.f2.f1) := qB1.at rfl
  have y8 : w1.cell? ⟨w.heap.size, 8, none⟩ = some (.int .i64 V.f2.f2.f2) := qB1.at rfl
  clear y0 y1 y2 qB hA hrow hr
  go_wp2_with fail
  go_at_call 37
  refine (in_yes V.f1 0 1000 _ (by omega) (by omega)).mono ?_
  rintro e w2 ⟨rfl, rfl⟩
  go_wp2_with fail
  go_at_call 16
  refine (hR _ hrow1).mono ?_
  rintro e w3 ⟨rfl, hb3⟩
  go_wp2
  go_ret
  exact ⟨by first | rfl | (cases r3 <;> rfl), hb2.trans (hb3.mono hb2.size)⟩

set_option maxHeartbeats 4000000 in
set_option maxRecDepth 100000 in
theorem site_impl (lo hi : Nat) (w : World) (A : Option Addr) (c : Nat) (l : List TVersion) (h : Lies lo hi w (dVersion l) (.slice A l.length c)) (hh : hi ≤ w.heap.size) (hm : room (dVersion l) ≤ 1048576) :
    Calls Try.prog 38 #[.slice A l.length c] w fun e w' => e = .returned (.bool (siteB l)) ∧ Below w.heap.size w w' := by
  obtain ⟨n, hn⟩ : ∃ n, l.length = n := ⟨_, rfl⟩
  have hnm : n ≤ 1048576 := by have : room (dVersion l) = l.length + _ := rfl; omega
  obtain ⟨r, hr⟩ : ∃ r, siteB l = r := ⟨_, rfl⟩
  rw [hr]
  rw [hn] at h ⊢
  have HN := Lib.hid hn
  have HR := Lib.hid hr
  clear hn hr hm
  by_cases h12 : n ≤ 12
  rotate_left
  · have hd : decide ((n : Int) > 12) = true := by simp; omega
    have hd2 : decide ((12 : Int) < n) = true := by simp; omega
    have e1 : r = false := by rw [← HR.out]; unfold siteB; rw [HN.out, decide_eq_false h12]; simp
    go_enter Try.func38, Try.ntmps38
    go_wp2
    go_ret
    exact ⟨by rw [e1]; rfl, Below.refl _ _⟩
  have hd0 : decide ((n : Int) > 12) = false := by simp; omega
  have hd1 : decide ((12 : Int) < n) = false := by simp; omega
  go_enter Try.func38, Try.ntmps38
  go_wp2
  go_loopw [10] (fun i wr => ∃ j : Nat, j ≤ n ∧ i = .int .i64 j ∧ AllOk l j ∧ Below w.heap.size w wr) (fun i _ => n - (Go.RowKit.intOf i).toNat)
  case atStart => exact ⟨0, Nat.zero_le _, rfl, AllOk.zero _, Below.refl _ _⟩
  case round =>
    obtain ⟨j, hj, rfl, hal, hbl⟩ := hrel
    by_cases hlt : j < n
    · have hbs := hbl.size
      obtain ⟨b, off, A5, c5, rfl, _, _, hc, q5, _⟩ := at_Version (h.under hbl hh) hlt
      have HNO := Lib.hid (fun h => siteB_no (l := l) (j := j) (by rw [HN.out]; exact hlt) h)
      have HYE := Lib.hid (fun h => hal.next h)
      obtain ⟨V, hV⟩ : ∃ V, l.getD j nVersion = V := ⟨_, rfl⟩
      rw [hV] at hc q5 HNO HYE
      obtain ⟨O, hO⟩ : ∃ O, O = Obj.cells (verCells V A5 c5).toArray 103 (0, 0) := ⟨_, rfl⟩
      have hA1 : Below wr.heap.size wr (wr.alloc O) := (Below.refl _ _).alloc (Nat.le_refl _) _
      have hA2 := hbl.trans (hA1.mono hbs)
      have qB : Blk 103 wr.heap.size (verCells V A5 c5) (wr.alloc O) := by rw [hO]; exact Blk.new _ _ wr
      obtain ⟨hrow, _, _⟩ := (q5.below hA1).row'
      have hVer := version_impl lo hi (wr.alloc O) V A5 c5 hrow
      obtain ⟨r1, hr1⟩ : ∃ r, okV V = r := ⟨_, rfl⟩
      rw [hr1] at hVer
      have HR1 := Lib.hid hr1
      have y0 : (wr.alloc O).cell? ⟨wr.heap.size, 0, none⟩ = some (.int .i64 V.f0.f0) := qB.at rfl
      have y1 : (wr.alloc O).cell? ⟨wr.heap.size, 1, none⟩ = some (.int .i64 V.f0.f1) := qB.at rfl
      have y2 : (wr.alloc O).cell? ⟨wr.heap.size, 2, none⟩ = some (.int .i64 V.f0.f2) := qB.at rfl
      have y3 : (wr.alloc O).cell? ⟨wr.heap.size, 3, none⟩ = some (.int .i64 V.f1) := qB.at rfl
      have y4 : (wr.alloc O).cell? ⟨wr.heap.size, 4, none⟩ = some (.int .i64 V.f2.f0) := qB.at rfl
      have y5 : (wr.alloc O).cell? ⟨wr.heap.size, 5, none⟩ = some (.slice A5 V.f2.f1.length c5) := qB.at rfl
      have y6 : (wr.alloc O).cell? ⟨wr.heap.size, 6, none⟩ = some (.int .i64 V.f2.f2.f0) := qB.at rfl
      have y7 : (wr.alloc O).cell? ⟨wr.heap.size, 7, none⟩ = some (.int .i64 V.f2.f2.f1) := qB.at rfl
      have y8 : (wr.alloc O).cell? ⟨wr.heap.size, 8, none⟩ = some (.int .i64 V.f2.f2.f2) := qB.at rfl
      obtain ⟨c0, c1, c2, c3, c4, c5', c6, c7, c8⟩ := hc
      have hsA := hA2.size
      subst hO
      simp only [verCells] at y0 y1 y2 y3 y4 y5 y6 y7 y8 hVer hA2 hsA
      clear hV qB q5 hal hA1 hrow hr1
      cases r1 with
      | false =>
        go_wp2_with (go_at_call 74; refine hVer.mono ?_; rintro e w1 ⟨rfl, hb1⟩)
        go_ret
        have e1 := HNO.out HR1.out
        rw [HR.out] at e1
        exact ⟨by rw [e1]; rfl, hA2.trans (hb1.mono hsA)⟩
      | true =>
        have hal2 := HYE.out HR1.out
        go_wp2_with (go_at_call 74; refine hVer.mono ?_; rintro e w1 ⟨rfl, hb1⟩)
        go_roundw
        case rel => exact ⟨j + 1, by omega, by go_num, hal2, hA2.trans (hb1.mono hsA)⟩
        case measure => simp [Go.RowKit.intOf]; omega
    · have hd : decide ((j : Int) < (n : Int)) = false := by simp; omega
      have e1 := hal.end (by rw [HN.out]; omega)
      rw [HR.out, HN.out, decide_eq_true h12] at e1
      go_wp2
      go_ret
      exact ⟨by rw [e1]; rfl, hbl⟩

end Go.Proofs.Ytagnhfalmefbhaa.Sites
