/-
  Sites that change: the program. Whether a site is valid; what an address has at a tick; when it changes.
  Conditions: the versions lie in memory, with 2^20 numbers at most.
-/
import Derived.Test.YtldpgkbemgpacaaAnswerI
import Derived.Test.YtldpgkbemgpacaaChanges
import Derived.Test.YtldpgkbemgpacaaRange
import Derived.Deep.RegionHeld3
import Derived.Deep.RegionWith
import Derived.Deep.CutBlock
import Derived.Deep.DeepCutAuto
namespace Go.Proofs.Ytldpgkbemgpacaa.Sites
open Go Go.RowKit Go.Proofs.Ytldpgkbemgpacaa.Mem Go.Proofs.Ytldpgkbemgpacaa.Gen Go.Proofs.Ytldpgkbemgpacaa.Adr Go.Proofs.Ytldpgkbemgpacaa.Res Go.Proofs.Ytldpgkbemgpacaa.Range

set_option maxHeartbeats 4000000 in
set_option maxRecDepth 100000 in
theorem version_impl (lo hi : Nat) (w : World) (V : TVersion) (a : Option Addr) (c : Nat) (hr : Row .i64 lo hi w a V.f2.f1.length V.f2.f1) :
    Calls Try.prog 55 #[.agg #[.int .i64 V.f0.f0, .int .i64 V.f0.f1, .int .i64 V.f0.f2, .int .i64 V.f1, .int .i64 V.f2.f0, .slice a V.f2.f1.length c, .int .i64 V.f2.f2.f0, .int .i64 V.f2.f2.f1, .int .i64 V.f2.f2.f2]] w fun e w' => e = .returned (.bool (okV V)) ∧ Below w.heap.size w w' := by
  have hokv : okV V = (okA V.f0.f0 V.f0.f1 V.f0.f2 && (decide (0 ≤ V.f1 ∧ V.f1 ≤ 1000) && okRes V.f2)) := rfl
  obtain ⟨O, hO⟩ : ∃ O, O = Obj.cells (verCells V a c).toArray 70 (0, 0) := ⟨_, rfl⟩
  have hB0 : Below w.heap.size w (w.alloc O) := (Below.refl _ _).alloc (Nat.le_refl _) _
  have qB : Blk 70 w.heap.size (verCells V a c) (w.alloc O) := by rw [hO]; exact Blk.new _ _ w
  have hrow := hr.below hB0
  have y0 : (w.alloc O).cell? ⟨w.heap.size, 0, none⟩ = some (.int .i64 V.f0.f0) := qB.at rfl
  have y1 : (w.alloc O).cell? ⟨w.heap.size, 1, none⟩ = some (.int .i64 V.f0.f1) := qB.at rfl
  have y2 : (w.alloc O).cell? ⟨w.heap.size, 2, none⟩ = some (.int .i64 V.f0.f2) := qB.at rfl
  have hs0 : w.heap.size ≤ (w.alloc O).heap.size := hB0.size
  obtain ⟨r1, hr1⟩ : ∃ r, okA V.f0.f0 V.f0.f1 V.f0.f2 = r := ⟨_, rfl⟩
  have hA := fun W => is_impl V.f0.f0 V.f0.f1 V.f0.f2 W
  rw [hr1] at hA hokv
  have HK := Lib.hid hokv
  clear hr1 hokv
  subst hO
  simp only [verCells] at qB hB0 hs0 hrow y0 y1 y2
  cases r1 with
  | false =>
    go_enter Try.func55, Try.ntmps55
    go_wp2_with (go_at_call 74; refine (hA _).mono ?_; rintro e w1 ⟨rfl, hb1⟩)
    go_ret
    exact ⟨by rw [HK.out]; rfl, hB0.trans (hb1.mono hs0)⟩
  | true =>
  by_cases t2 : 0 ≤ V.f1 ∧ V.f1 ≤ 1000
  rotate_left
  · go_enter Try.func55, Try.ntmps55
    go_wp2_with fail
    go_at_call 74
    refine (hA _).mono ?_
    rintro e w1 ⟨rfl, hb1⟩
    have qB1 := qB.below hb1
    have y3 : w1.cell? ⟨w.heap.size, 3, none⟩ = some (.int .i64 V.f1) := qB1.at rfl
    go_wp2_with (go_at_call 46; refine (in_no V.f1 0 1000 _ (by omega)).mono ?_; rintro e w2 ⟨rfl, rfl⟩)
    go_ret
    exact ⟨by rw [HK.out]; simp [t2], hB0.trans (hb1.mono hs0)⟩
  have hR := fun W hW => valid_impl lo hi V.f2.f0 V.f2.f2.f0 V.f2.f2.f1 V.f2.f2.f2 W a V.f2.f1.length c V.f2.f1 hW
  obtain ⟨r3, hr3⟩ : ∃ r, okRes V.f2 = r := ⟨_, rfl⟩
  have hk3 := HK.out
  rw [hr3, decide_eq_true t2] at hk3
  rw [show okR V.f2.f0 V.f2.f2.f0 V.f2.f2.f1 V.f2.f2.f2 V.f2.f1.length V.f2.f1 = r3 from hr3] at hR
  have hk4 : okV V = r3 := by rw [hk3]; simp
  rw [hk4]
  clear hr3 hk3 hk4 HK
  go_enter Try.func55, Try.ntmps55
  go_wp2_with fail
  go_at_call 74
  refine (hA _).mono ?_
  rintro e w1 ⟨rfl, hb1⟩
  have qB1 := qB.below hb1
  have hrow1 := hrow.below hb1
  have hb2 := hB0.trans (hb1.mono hs0)
  have y3 : w1.cell? ⟨w.heap.size, 3, none⟩ = some (.int .i64 V.f1) := qB1.at rfl
  have y4 : w1.cell? ⟨w.heap.size, 4, none⟩ = some (.int .i64 V.f2.f0) := qB1.at rfl
  have y5 : w1.cell? ⟨w.heap.size, 5, none⟩ = some (.slice a V.f2.f1.length c) := qB1.at rfl
  have y6 : w1.cell? ⟨w.heap.size, 6, none⟩ = some (.int .i64 V.f2.f2.f0) := qB1.at rfl
  have y7 : w1.cell? ⟨w.heap.size, 7, none⟩ = some (.int .i64 V.f2.f2.f1) := qB1.at rfl
  have y8 : w1.cell? ⟨w.heap.size, 8, none⟩ = some (.int .i64 V.f2.f2.f2) := qB1.at rfl
  clear y0 y1 y2 qB hA hrow hr
  go_wp2_with fail
  go_at_call 46
  refine (in_yes V.f1 0 1000 _ (by omega) (by omega)).mono ?_
  rintro e w2 ⟨rfl, rfl⟩
  go_wp2_with fail
  go_at_call 75
  refine (hR _ hrow1).mono ?_
  rintro e w3 ⟨rfl, hb3⟩
  go_wp2
  go_ret
  exact ⟨by first | rfl | (cases r3 <;> rfl), hb2.trans (hb3.mono hb2.size)⟩

set_option maxHeartbeats 4000000 in
set_option maxRecDepth 100000 in
theorem site_impl (lo hi : Nat) (w : World) (A : Option Addr) (c : Nat) (l : List TVersion) (h : Lies lo hi w (dVersion l) (.slice A l.length c)) (hh : hi ≤ w.heap.size) (hm : room (dVersion l) ≤ 1048576) :
    Calls Try.prog 20 #[.slice A l.length c] w fun e w' => e = .returned (.bool (siteB l)) ∧ Below w.heap.size w w' := by
  obtain ⟨n, hn⟩ : ∃ n, l.length = n := ⟨_, rfl⟩
  have hnm : n ≤ 1048576 := by have : room (dVersion l) = l.length + _ := rfl; omega
  obtain ⟨r, hr⟩ : ∃ r, siteB l = r := ⟨_, rfl⟩
  rw [hr]
  rw [hn] at h ⊢
  have HN := Lib.hid hn
  have HR := Lib.hid hr
  clear hn hr hm
  by_cases h12 : n ≤ 12
  rotate_left
  · have hd : decide ((n : Int) > 12) = true := by simp; omega
    have hd2 : decide ((12 : Int) < n) = true := by simp; omega
    have e1 : r = false := by rw [← HR.out]; unfold siteB; rw [HN.out, decide_eq_false h12]; simp
    go_enter Try.func20, Try.ntmps20
    go_wp2
    go_ret
    exact ⟨by rw [e1]; rfl, Below.refl _ _⟩
  have hd0 : decide ((n : Int) > 12) = false := by simp; omega
  have hd1 : decide ((12 : Int) < n) = false := by simp; omega
  go_enter Try.func20, Try.ntmps20
  go_wp2
  go_loopw [10] (fun i wr => ∃ j : Nat, j ≤ n ∧ i = .int .i64 j ∧ AllOk l j ∧ Below w.heap.size w wr) (fun i _ => n - (Go.RowKit.intOf i).toNat)
  case atStart => exact ⟨0, Nat.zero_le _, rfl, AllOk.zero _, Below.refl _ _⟩
  case round =>
    obtain ⟨j, hj, rfl, hal, hbl⟩ := hrel
    by_cases hlt : j < n
    · have hbs := hbl.size
      obtain ⟨b, off, A5, c5, rfl, _, _, hc, q5, _⟩ := at_Version (h.under hbl hh) hlt
      have HNO := Lib.hid (fun h => siteB_no (l := l) (j := j) (by rw [HN.out]; exact hlt) h)
      have HYE := Lib.hid (fun h => hal.next h)
      obtain ⟨V, hV⟩ : ∃ V, l.getD j nVersion = V := ⟨_, rfl⟩
      rw [hV] at hc q5 HNO HYE
      obtain ⟨O, hO⟩ : ∃ O, O = Obj.cells (verCells V A5 c5).toArray 70 (0, 0) := ⟨_, rfl⟩
      have hA1 : Below wr.heap.size wr (wr.alloc O) := (Below.refl _ _).alloc (Nat.le_refl _) _
      have hA2 := hbl.trans (hA1.mono hbs)
      have qB : Blk 70 wr.heap.size (verCells V A5 c5) (wr.alloc O) := by rw [hO]; exact Blk.new _ _ wr
      obtain ⟨hrow, _, _⟩ := (q5.below hA1).row'
      have hVer := version_impl lo hi (wr.alloc O) V A5 c5 hrow
      obtain ⟨r1, hr1⟩ : ∃ r, okV V = r := ⟨_, rfl⟩
      rw [hr1] at hVer
      have HR1 := Lib.hid hr1
      have y0 : (wr.alloc O).cell? ⟨wr.heap.size, 0, none⟩ = some (.int .i64 V.f0.f0) := qB.at rfl
      have y1 : (wr.alloc O).cell? ⟨wr.heap.size, 1, none⟩ = some (.int .i64 V.f0.f1) := qB.at rfl
      have y2 : (wr.alloc O).cell? ⟨wr.heap.size, 2, none⟩ = some (.int .i64 V.f0.f2) := qB.at rfl
      have y3 : (wr.alloc O).cell? ⟨wr.heap.size, 3, none⟩ = some (.int .i64 V.f1) := qB.at rfl
      have y4 : (wr.alloc O).cell? ⟨wr.heap.size, 4, none⟩ = some (.int .i64 V.f2.f0) := qB.at rfl
      have y5 : (wr.alloc O).cell? ⟨wr.heap.size, 5, none⟩ = some (.slice A5 V.f2.f1.length c5) := qB.at rfl
      have y6 : (wr.alloc O).cell? ⟨wr.heap.size, 6, none⟩ = some (.int .i64 V.f2.f2.f0) := qB.at rfl
      have y7 : (wr.alloc O).cell? ⟨wr.heap.size, 7, none⟩ = some (.int .i64 V.f2.f2.f1) := qB.at rfl
      have y8 : (wr.alloc O).cell? ⟨wr.heap.size, 8, none⟩ = some (.int .i64 V.f2.f2.f2) := qB.at rfl
      obtain ⟨c0, c1, c2, c3, c4, c5', c6, c7, c8⟩ := hc
      have hsA := hA2.size
      subst hO
      simp only [verCells] at y0 y1 y2 y3 y4 y5 y6 y7 y8 hVer hA2 hsA
      clear hV qB q5 hal hA1 hrow hr1
      cases r1 with
      | false =>
        go_wp2_with (go_at_call 55; refine hVer.mono ?_; rintro e w1 ⟨rfl, hb1⟩)
        go_ret
        have e1 := HNO.out HR1.out
        rw [HR.out] at e1
        exact ⟨by rw [e1]; rfl, hA2.trans (hb1.mono hsA)⟩
      | true =>
        have hal2 := HYE.out HR1.out
        go_wp2_with (go_at_call 55; refine hVer.mono ?_; rintro e w1 ⟨rfl, hb1⟩)
        go_roundw
        case rel => exact ⟨j + 1, by omega, by go_num, hal2, hA2.trans (hb1.mono hsA)⟩
        case measure => simp [Go.RowKit.intOf]; omega
    · have hd : decide ((j : Int) < (n : Int)) = false := by simp; omega
      have e1 := hal.end (by rw [HN.out]; omega)
      rw [HR.out, HN.out, decide_eq_true h12] at e1
      go_wp2
      go_ret
      exact ⟨by rw [e1]; rfl, hbl⟩

set_option maxHeartbeats 4000000 in
set_option maxRecDepth 100000 in
theorem answer_impl (lo hi : Nat) (w : World) (L : Option Addr) (c : Nat) (l : List TVersion) (h : Lies lo hi w (dVersion l) (.slice L l.length c)) (hh : hi ≤ w.heap.size) (hm : room (dVersion l) ≤ 1048576) (A : TAddress) (hA : WfA A) (t : Int) :
    Calls Try.prog 11 #[.slice L l.length c, .agg #[.int .i64 A.f0, .int .i64 A.f1, .int .i64 A.f2], .int .i64 t] w fun e w' => ∃ (a : Option Addr) (d : Nat), e = .returned (.agg #[.int .i64 (answer l A t).f0, .slice a (answer l A t).f1.length d, .int .i64 (answer l A t).f2.f0, .int .i64 (answer l A t).f2.f1, .int .i64 (answer l A t).f2.f2]) ∧ OwnD w.heap.size w'.heap.size w' (ints (answer l A t).f1) (.slice a (answer l A t).f1.length d) ∧ Below w.heap.size w w' := by
  have hsm := past_len hm A
  have hans := answer_past l A t
  obtain ⟨R, hR⟩ : ∃ R, answer l A t = R := ⟨_, rfl⟩
  rw [hR] at hans ⊢
  obtain ⟨p, hp⟩ : ∃ p, past l A = p := ⟨_, rfl⟩
  have hps : sel l A l.length = p := hp
  rw [hp] at hans hsm
  have HA := Lib.hid hans
  have HS := Lib.hid hps
  clear hR hp hans hps
  obtain ⟨O1, hO1⟩ : ∃ O, O = Obj.cells (adrCells A).toArray 26 (0, 0) := ⟨_, rfl⟩
  obtain ⟨O2, hO2⟩ : ∃ O, O = Obj.cells (resCells ⟨0, [], ⟨0, 0, 0⟩⟩ none 0).toArray 31 (0, 0) := ⟨_, rfl⟩
  obtain ⟨W, hW⟩ : ∃ W, (w.alloc O1).alloc O2 = W := ⟨_, rfl⟩
  have hB0 : Below w.heap.size w W := by rw [← hW]; repeat' (first | exact Below.refl _ _ | assumption | refine Below.setCell ?_ ?_ _ | refine Below.alloc ?_ ?_ _ | refine Gen.gbelow_drewN ?_ _ | refine Below.drew ?_ | exact Nat.le_refl _ | omega | (dsimp only; omega) | refine Gen.gle_alloc ?_ | refine Gen.gle_set ?_ | refine Gen.gle_drewN ?_ | refine Gen.gle_drew ?_)
  have hs0 : W.heap.size = w.heap.size + 2 := by rw [← hW]; simp only [gsize_alloc]
  have qA : Blk 26 w.heap.size (adrCells A) W := by rw [← hW, hO1]; exact (Blk.new _ _ w).alloc _
  have qR : Blk 31 (w.heap.size + 1) (resCells ⟨0, [], ⟨0, 0, 0⟩⟩ none 0) W := by rw [← hW]; have := Blk.new 31 (resCells ⟨0, [], ⟨0, 0, 0⟩⟩ none 0) (w.alloc O1); rw [gsize_alloc] at this; rw [hO2]; exact this
  have hL := h.under hB0 hh
  have hW2 : (w.alloc (.cells #[.int .i64 A.f0, .int .i64 A.f1, .int .i64 A.f2] 26)).alloc (.cells #[.int .i64 0, .slice none 0 0, .int .i64 0, .int .i64 0, .int .i64 0] 31) = W := by rw [← hW, hO1, hO2]; rfl
  have HW := Lib.hid hW2
  clear hW hO1 hO2 hW2
  go_enter Try.func11, Try.ntmps11
  go_upto_region 1 with fail
  rw [HW.out]
  have hP := pasts_of lo hi W.drew L c l (hL.drewN 1) (by show hi ≤ W.heap.size; omega) hm
  have a0 : W.drew.cell? ⟨w.heap.size, 0, none⟩ = some (.int .i64 A.f0) := qA.at rfl
  have a1 : W.drew.cell? ⟨w.heap.size, 1, none⟩ = some (.int .i64 A.f1) := qA.at rfl
  have a2 : W.drew.cell? ⟨w.heap.size, 2, none⟩ = some (.int .i64 A.f2) := qA.at rfl
  refine wp_region_held_drew (S := (fun w' => w'.cell? ⟨w.heap.size, 0, none⟩ = some (.int .i64 A.f0) ∧ w'.cell? ⟨w.heap.size, 1, none⟩ = some (.int .i64 A.f1) ∧ w'.cell? ⟨w.heap.size, 2, none⟩ = some (.int .i64 A.f2))) (by kernel_rfl) ⟨a0, a1, a2⟩ (fun hHeld => ?_)
  refine wpAnyH_take (i := 0) (v := ?va0) (List.getElem?_toArray.trans rfl) (by kernel_rfl) (by kernel_rfl) (by kernel_rfl) (fun _ _ _ h => h) (Or.inl ⟨by rfl, ?ya0⟩) (by assumption) ?ra0
  case ya0 => (intro w hSw; (try dsimp only at hSw); go_simp; try with_reducible rfl)
  try simp only [Act.put, List.setIfInBounds_toArray, List.set_cons_zero, List.set_cons_succ]
  refine wpAnyH_take (i := 2) (v := .agg #[.int .i64 A.f0, .int .i64 A.f1, .int .i64 A.f2]) (List.getElem?_toArray.trans rfl) (by kernel_rfl) (by kernel_rfl) (by kernel_rfl) (fun _ _ _ h => h) (Or.inl ⟨by rfl, ?ya2⟩) (by assumption) ?ra2
  case ya2 => (intro w hSw; (try dsimp only at hSw); go_simp; try simp [hSw])
  try simp only [Act.put, List.setIfInBounds_toArray, List.set_cons_zero, List.set_cons_succ]
  refine wpAnyH_take (i := 4) (v := ?va4) (List.getElem?_toArray.trans rfl) (by kernel_rfl) (by kernel_rfl) (by kernel_rfl) (fun _ _ _ h => h) (Or.inl ⟨by rfl, ?ya4⟩) (by assumption) ?ra4
  case ya4 => (intro w hSw; (try dsimp only at hSw); go_simp; try with_reducible rfl)
  try simp only [Act.put, List.setIfInBounds_toArray, List.set_cons_zero, List.set_cons_succ]
  refine wpAnyH_ready (rs := [1]) (by kernel_rfl) (by simp) ?_
  refine AllReadyH.cons (List.getElem?_toArray.trans rfl) (fun K hK => ?_) AllReadyH.nil
  go_simp
  go_at_call 41
  refine hP.mono ?_
  rintro e w1 ⟨F, rfl, hp1, hg1, hb1⟩
  have hz1 := hb1.size
  have qA := Blk.below (w := W.drew) qA hb1
  have qR := Blk.below (w := W.drew) qR hb1
  have s9 : w1.cell? ⟨w.heap.size, 0, none⟩ = some (.int .i64 A.f0) ∧ w1.cell? ⟨w.heap.size, 1, none⟩ = some (.int .i64 A.f1) ∧ w1.cell? ⟨w.heap.size, 2, none⟩ = some (.int .i64 A.f2) := ⟨qA.at rfl, qA.at rfl, qA.at rfl⟩
  refine hK.out _ _ s9 (fun hHeld => ?_)
  clear hK K
  try simp only [Act.put, List.setIfInBounds_toArray, List.set_cons_zero, List.set_cons_succ]
  refine wpAnyH_ready (rs := [3]) (by kernel_rfl) (by simp) ?_
  refine AllReadyH.cons (List.getElem?_toArray.trans rfl) (fun K hK => ?_) AllReadyH.nil
  go_simp
  obtain ⟨v0, hv0⟩ : ∃ v0, F A = v0 := ⟨_, rfl⟩
  have hlook := hp1.look hA
  have hpa := hg1.one A hA
  rw [hv0] at hlook hpa
  rw [HS.out] at hpa
  obtain ⟨A0, c0, hv1⟩ := hpa.shape
  subst hv1
  simp only [vA] at hlook
  rw [show W.drew.heap.size = w.heap.size + 2 from hs0] at hlook
  go_simp
  have s9 : w1.cell? ⟨w.heap.size, 0, none⟩ = some (.int .i64 A.f0) ∧ w1.cell? ⟨w.heap.size, 1, none⟩ = some (.int .i64 A.f1) ∧ w1.cell? ⟨w.heap.size, 2, none⟩ = some (.int .i64 A.f2) := ⟨qA.at rfl, qA.at rfl, qA.at rfl⟩
  refine hK.out _ _ s9 (fun hHeld => ?_)
  clear hK K
  try simp only [Act.put, List.setIfInBounds_toArray, List.set_cons_zero, List.set_cons_succ]
  refine wpAnyH_ready (rs := [5]) (by kernel_rfl) (by simp) ?_
  refine AllReadyH.cons (List.getElem?_toArray.trans rfl) (fun K hK => ?_) AllReadyH.nil
  go_simp
  have hans := past_answer 0 w1.heap.size w1 A0 c0 p (hpa.lies (by have : W.drew.heap.size = w.heap.size + 2 := hs0; omega)) (Nat.le_refl _) hsm.1 hsm.2 t
  rw [HA.out] at hans
  go_at_call 42
  refine hans.mono ?_
  rintro e w2 ⟨x1, y1, rfl, ho2, hb2⟩
  have hz2 := hb2.size
  have qA := Blk.below (w := w1) qA hb2
  have qR := Blk.below (w := w1) qR hb2
  have s9 : w2.cell? ⟨w.heap.size, 0, none⟩ = some (.int .i64 A.f0) ∧ w2.cell? ⟨w.heap.size, 1, none⟩ = some (.int .i64 A.f1) ∧ w2.cell? ⟨w.heap.size, 2, none⟩ = some (.int .i64 A.f2) := ⟨qA.at rfl, qA.at rfl, qA.at rfl⟩
  refine hK.out _ _ s9 (fun hHeld => ?_)
  clear hK K
  try simp only [Act.put, List.setIfInBounds_toArray, List.set_cons_zero, List.set_cons_succ]
  refine wpAnyH_ready (rs := [6]) (by kernel_rfl) (by simp) ?_
  refine AllReadyH.cons (List.getElem?_toArray.trans rfl) (fun K hK => ?_) AllReadyH.nil
  go_simp
  have o0 : w2.cell? ⟨w.heap.size + 1, 0, none⟩ = some (.int .i64 0) := qR.at rfl
  have o1 : w2.cell? ⟨w.heap.size + 1, 1, none⟩ = some (.slice none 0 0) := qR.at rfl
  have o2 : w2.cell? ⟨w.heap.size + 1, 2, none⟩ = some (.int .i64 0) := qR.at rfl
  have o3 : w2.cell? ⟨w.heap.size + 1, 3, none⟩ = some (.int .i64 0) := qR.at rfl
  have o4 : w2.cell? ⟨w.heap.size + 1, 4, none⟩ = some (.int .i64 0) := qR.at rfl
  have p0 := qR.free 0
  have p1 := qR.free 1
  have p2 := qR.free 2
  have p3 := qR.free 3
  have p4 := qR.free 4
  have qF := ((((qR.set 0 (.int .i64 R.f0)).set 1 (.slice x1 R.f1.length y1)).set 2 (.int .i64 R.f2.f0)).set 3 (.int .i64 R.f2.f1)).set 4 (.int .i64 R.f2.f2)
  have qA5 := ((((qA.other (a := ⟨w.heap.size + 1, 0, none⟩) (.int .i64 R.f0) (by dsimp only; omega)).other (a := ⟨w.heap.size + 1, 1, none⟩) (.slice x1 R.f1.length y1) (by dsimp only; omega)).other (a := ⟨w.heap.size + 1, 2, none⟩) (.int .i64 R.f2.f0) (by dsimp only; omega)).other (a := ⟨w.heap.size + 1, 3, none⟩) (.int .i64 R.f2.f1) (by dsimp only; omega)).other (a := ⟨w.heap.size + 1, 4, none⟩) (.int .i64 R.f2.f2) (by dsimp only; omega)
  go_simp
  have s9 : (((((w2.setCell ⟨w.heap.size + 1, 0, none⟩ (.int .i64 R.f0)).setCell ⟨w.heap.size + 1, 1, none⟩ (.slice x1 R.f1.length y1)).setCell ⟨w.heap.size + 1, 2, none⟩ (.int .i64 R.f2.f0)).setCell ⟨w.heap.size + 1, 3, none⟩ (.int .i64 R.f2.f1)).setCell ⟨w.heap.size + 1, 4, none⟩ (.int .i64 R.f2.f2)).cell? ⟨w.heap.size, 0, none⟩ = some (.int .i64 A.f0) ∧ (((((w2.setCell ⟨w.heap.size + 1, 0, none⟩ (.int .i64 R.f0)).setCell ⟨w.heap.size + 1, 1, none⟩ (.slice x1 R.f1.length y1)).setCell ⟨w.heap.size + 1, 2, none⟩ (.int .i64 R.f2.f0)).setCell ⟨w.heap.size + 1, 3, none⟩ (.int .i64 R.f2.f1)).setCell ⟨w.heap.size + 1, 4, none⟩ (.int .i64 R.f2.f2)).cell? ⟨w.heap.size, 1, none⟩ = some (.int .i64 A.f1) ∧ (((((w2.setCell ⟨w.heap.size + 1, 0, none⟩ (.int .i64 R.f0)).setCell ⟨w.heap.size + 1, 1, none⟩ (.slice x1 R.f1.length y1)).setCell ⟨w.heap.size + 1, 2, none⟩ (.int .i64 R.f2.f0)).setCell ⟨w.heap.size + 1, 3, none⟩ (.int .i64 R.f2.f1)).setCell ⟨w.heap.size + 1, 4, none⟩ (.int .i64 R.f2.f2)).cell? ⟨w.heap.size, 2, none⟩ = some (.int .i64 A.f2) := ⟨qA5.at rfl, qA5.at rfl, qA5.at rfl⟩
  refine hK.out _ _ s9 (fun hHeld => ?_)
  clear hK K
  try simp only [Act.put, List.setIfInBounds_toArray, List.set_cons_zero, List.set_cons_succ]
  refine wpAnyH_done (by kernel_rfl) ?_ _
  have g0 := qF.at (x := 0) rfl
  have g1 := qF.at (x := 1) rfl
  have g2 := qF.at (x := 2) rfl
  have g3 := qF.at (x := 3) rfl
  have g4 := qF.at (x := 4) rfl
  go_wp2
  refine bodyPost_ret (v := .agg #[.int .i64 R.f0, .slice x1 R.f1.length y1, .int .i64 R.f2.f0, .int .i64 R.f2.f1, .int .i64 R.f2.f2]) (by simp [results, Try.results11, go_sem, g0, g1, g2, g3, g4]) rfl ⟨x1, y1, rfl, ?_, ?_⟩
  · have hsd : W.drew.heap.size = w.heap.size + 2 := hs0
    refine OwnD.more (OwnD.zone ho2 (lo' := 0) (hi' := w.heap.size + 2) ?_ (Or.inr (by omega))) (by omega) (by simp only [gsize_set]; omega)
    iterate 5 (refine Zone.setCell ?_ ⟨by omega, by omega⟩ _)
    exact Zone.refl _ _ _
  · have hsd : W.drew.heap.size = w.heap.size + 2 := hs0
    iterate 5 (refine Below.setCell ?_ (by dsimp only; omega) _)
    exact (((gbelow_drewN hB0 1).trans (hb1.mono (by omega))).trans (hb2.mono (by omega)))

set_option maxHeartbeats 4000000 in
set_option maxRecDepth 100000 in
theorem changes_impl (lo hi : Nat) (w : World) (L : Option Addr) (c : Nat) (l : List TVersion) (h : Lies lo hi w (dVersion l) (.slice L l.length c)) (hh : hi ≤ w.heap.size) (hm : room (dVersion l) ≤ 1048576) (A : TAddress) (hA : WfA A) :
    Calls Try.prog 12 #[.slice L l.length c, .agg #[.int .i64 A.f0, .int .i64 A.f1, .int .i64 A.f2]] w (Slice .i64 w.heap.size (ticks (past l A)).length (ticks (past l A)) w) := by
  have hsm := past_len hm A
  obtain ⟨p, hp⟩ : ∃ p, past l A = p := ⟨_, rfl⟩
  have hps : sel l A l.length = p := hp
  rw [hp] at hsm ⊢
  have HS := Lib.hid hps
  clear hp hps
  obtain ⟨Z, hZ⟩ : ∃ Z, ticks p = Z := ⟨_, rfl⟩
  rw [hZ]
  have HZ := Lib.hid hZ
  clear hZ
  obtain ⟨W, hW⟩ : ∃ W, w.alloc (.cells #[.int .i64 A.f0, .int .i64 A.f1, .int .i64 A.f2] 26) = W := ⟨_, rfl⟩
  have hB0 : Below w.heap.size w W := by rw [← hW]; exact (Below.refl _ _).alloc (Nat.le_refl _) _
  have hs0 : W.heap.size = w.heap.size + 1 := by rw [← hW]; simp only [gsize_alloc]
  have qA : Blk 26 w.heap.size (adrCells A) W := by rw [← hW]; exact Blk.new _ (adrCells A) w
  have hL := h.under hB0 hh
  have HW := Lib.hid hW
  clear hW
  go_enter Try.func12, Try.ntmps12
  go_upto_region 1 with fail
  rw [HW.out]
  have hP := pasts_of lo hi W.drew L c l (hL.drewN 1) (by show hi ≤ W.heap.size; omega) hm
  have a0 : W.drew.cell? ⟨w.heap.size, 0, none⟩ = some (.int .i64 A.f0) := qA.at rfl
  have a1 : W.drew.cell? ⟨w.heap.size, 1, none⟩ = some (.int .i64 A.f1) := qA.at rfl
  have a2 : W.drew.cell? ⟨w.heap.size, 2, none⟩ = some (.int .i64 A.f2) := qA.at rfl
  refine wp_region_held_drew (S := (fun w' => w'.cell? ⟨w.heap.size, 0, none⟩ = some (.int .i64 A.f0) ∧ w'.cell? ⟨w.heap.size, 1, none⟩ = some (.int .i64 A.f1) ∧ w'.cell? ⟨w.heap.size, 2, none⟩ = some (.int .i64 A.f2))) (by kernel_rfl) ⟨a0, a1, a2⟩ (fun hHeld => ?_)
  refine wpAnyH_take (i := 0) (v := ?va0) (List.getElem?_toArray.trans rfl) (by kernel_rfl) (by kernel_rfl) (by kernel_rfl) (fun _ _ _ h => h) (Or.inl ⟨by rfl, ?ya0⟩) (by assumption) ?ra0
  case ya0 => (intro w hSw; (try dsimp only at hSw); go_simp; try with_reducible rfl)
  try simp only [Act.put, List.setIfInBounds_toArray, List.set_cons_zero, List.set_cons_succ]
  refine wpAnyH_take (i := 2) (v := .agg #[.int .i64 A.f0, .int .i64 A.f1, .int .i64 A.f2]) (List.getElem?_toArray.trans rfl) (by kernel_rfl) (by kernel_rfl) (by kernel_rfl) (fun _ _ _ h => h) (Or.inl ⟨by rfl, ?ya2⟩) (by assumption) ?ra2
  case ya2 => (intro w hSw; (try dsimp only at hSw); go_simp; try simp [hSw])
  try simp only [Act.put, List.setIfInBounds_toArray, List.set_cons_zero, List.set_cons_succ]
  refine wpAnyH_ready (rs := [1]) (by kernel_rfl) (by simp) ?_
  refine AllReadyH.cons (List.getElem?_toArray.trans rfl) (fun K hK => ?_) AllReadyH.nil
  go_simp
  go_at_call 41
  refine hP.mono ?_
  rintro e w1 ⟨F, rfl, hp1, hg1, hb1⟩
  have hz1 := hb1.size
  have qA := Blk.below (w := W.drew) qA hb1
  have s9 : w1.cell? ⟨w.heap.size, 0, none⟩ = some (.int .i64 A.f0) ∧ w1.cell? ⟨w.heap.size, 1, none⟩ = some (.int .i64 A.f1) ∧ w1.cell? ⟨w.heap.size, 2, none⟩ = some (.int .i64 A.f2) := ⟨qA.at rfl, qA.at rfl, qA.at rfl⟩
  refine hK.out _ _ s9 (fun hHeld => ?_)
  clear hK K
  try simp only [Act.put, List.setIfInBounds_toArray, List.set_cons_zero, List.set_cons_succ]
  refine wpAnyH_ready (rs := [3]) (by kernel_rfl) (by simp) ?_
  refine AllReadyH.cons (List.getElem?_toArray.trans rfl) (fun K hK => ?_) AllReadyH.nil
  go_simp
  obtain ⟨v0, hv0⟩ : ∃ v0, F A = v0 := ⟨_, rfl⟩
  have hlook := hp1.look hA
  have hpa := hg1.one A hA
  rw [hv0] at hlook hpa
  rw [HS.out] at hpa
  obtain ⟨A0, c0, hv1⟩ := hpa.shape
  subst hv1
  simp only [vA] at hlook
  rw [show W.drew.heap.size = w.heap.size + 1 from hs0] at hlook
  go_simp
  have s9 : w1.cell? ⟨w.heap.size, 0, none⟩ = some (.int .i64 A.f0) ∧ w1.cell? ⟨w.heap.size, 1, none⟩ = some (.int .i64 A.f1) ∧ w1.cell? ⟨w.heap.size, 2, none⟩ = some (.int .i64 A.f2) := ⟨qA.at rfl, qA.at rfl, qA.at rfl⟩
  refine hK.out _ _ s9 (fun hHeld => ?_)
  clear hK K
  try simp only [Act.put, List.setIfInBounds_toArray, List.set_cons_zero, List.set_cons_succ]
  refine wpAnyH_ready (rs := [4]) (by kernel_rfl) (by simp) ?_
  refine AllReadyH.cons (List.getElem?_toArray.trans rfl) (fun K hK => ?_) AllReadyH.nil
  go_simp
  have hch := past_changes 0 w1.heap.size w1 A0 c0 p (hpa.lies (by have : W.drew.heap.size = w.heap.size + 1 := hs0; omega)) (Nat.le_refl _) hsm.1
  rw [HZ.out] at hch
  go_at_call 43
  refine hch.mono ?_
  rintro e w2 ⟨x1, y1, rfl, ho2, hk1, hk2, hb2⟩
  have hz2 := hb2.size
  have qA := Blk.below (w := w1) qA hb2
  have s9 : w2.cell? ⟨w.heap.size, 0, none⟩ = some (.int .i64 A.f0) ∧ w2.cell? ⟨w.heap.size, 1, none⟩ = some (.int .i64 A.f1) ∧ w2.cell? ⟨w.heap.size, 2, none⟩ = some (.int .i64 A.f2) := ⟨qA.at rfl, qA.at rfl, qA.at rfl⟩
  refine hK.out _ _ s9 (fun hHeld => ?_)
  clear hK K
  try simp only [Act.put, List.setIfInBounds_toArray, List.set_cons_zero, List.set_cons_succ]
  refine wpAnyH_ready (rs := [5]) (by kernel_rfl) (by simp) ?_
  refine AllReadyH.cons (List.getElem?_toArray.trans rfl) (fun K hK => ?_) AllReadyH.nil
  go_simp
  have s9 : w2.cell? ⟨w.heap.size, 0, none⟩ = some (.int .i64 A.f0) ∧ w2.cell? ⟨w.heap.size, 1, none⟩ = some (.int .i64 A.f1) ∧ w2.cell? ⟨w.heap.size, 2, none⟩ = some (.int .i64 A.f2) := ⟨qA.at rfl, qA.at rfl, qA.at rfl⟩
  refine hK.out _ _ s9 (fun hHeld => ?_)
  clear hK K
  try simp only [Act.put, List.setIfInBounds_toArray, List.set_cons_zero, List.set_cons_succ]
  refine wpAnyH_done (by kernel_rfl) ?_ _
  go_wp2
  go_ret
  have hsd : W.drew.heap.size = w.heap.size + 1 := hs0
  exact ⟨x1, y1, rfl, ho2.more (by omega) (Nat.le_refl _), hk1, hk2, ((gbelow_drewN hB0 1).trans (hb1.mono (by omega))).trans (hb2.mono (by omega))⟩
end Go.Proofs.Ytldpgkbemgpacaa.Sites
