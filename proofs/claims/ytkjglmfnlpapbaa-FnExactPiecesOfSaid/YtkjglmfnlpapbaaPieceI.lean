/-
  Pieces: the program. Their cost, what they make of a body, the pieces of two bodies, whether they are worth it.
  Conditions: the bodies and the pieces lie in memory, at most 2^20 numbers each.
-/
import Derived.Test.YtkjglmfnlpapbaaPiecesOf
import Derived.Test.YtkjglmfnlpapbaaCompRun
namespace Go.Proofs.Ytkjglmfnlpapbaa.Pieces
open Go Go.RowKit Go.Proofs.Ytkjglmfnlpapbaa.Mem Go.Proofs.Ytkjglmfnlpapbaa.Adr Go.Proofs.Ytkjglmfnlpapbaa.Res Go.Proofs.Ytkjglmfnlpapbaa.Range

set_option maxHeartbeats 1600000 in
set_option maxRecDepth 100000 in
theorem cost_impl (lo hi : Nat) (w : World) (a : Option Addr) (n c : Nat) (l : List Pc) (hr : CRow lo hi w a n l) (hh : hi ≤ w.heap.size) (hm : room l ≤ 1048576) :
    Calls Try.prog 13 #[.slice a n c] w fun e w' => e = .returned (.int .i64 (room l : Int)) ∧ Below w.heap.size w w' := by
  obtain ⟨hn, hz⟩ := hr.room_at hm
  obtain ⟨T, hT⟩ : ∃ T : Int, T = (room l : Int) := ⟨_, rfl⟩
  rw [← hT]
  have HT := Lib.hid hT
  have HL := Lib.hid hr.len
  have HM := Lib.hid (room_eq l)
  have HB := Lib.hid hm
  clear hT hm
  go_enter Try.func13, Try.ntmps13
  go_wp2
  go_loopw [3, 10] (fun x i wr => ∃ (j : Nat) (r : Int), j ≤ n ∧ i = .int .i64 j ∧ x = .int .i64 r ∧ Hid (r = n + (bodies (l.take j) : Int)) ∧ 0 ≤ r ∧ r ≤ 1048576 ∧ Below w.heap.size w wr) (fun _ i _ => n - (Go.RowKit.intOf i).toNat)
  case atStart => exact ⟨0, n, Nat.zero_le _, rfl, rfl, by simp [bodies, Hid], by omega, by omega, Below.refl _ _⟩
  case round =>
    obtain ⟨j, r, hj, rfl, rfl, HQ, hr0, hr1, hbr⟩ := hrel
    have hbs := hbr.size
    by_cases hlt : j < n
    · obtain ⟨g, off, A, cc, rfl, _, _, hc, _, _⟩ := (hr.under hbr hh).at hlt
      have hzj := hz j hlt
      have h3 := bodies_take l j (by have := HL.out; omega)
      have h4 := bodies_le l (j + 1)
      have hs : r + ((pc l j).zs.length : Int) ≤ 1048576 ∧ r + ((pc l j).zs.length : Int) = n + (bodies (l.take (j + 1)) : Int) := by have := HQ.out; have := HM.out; have := HL.out; have := HB.out; omega
      have e1 : IntKind.wrap .i64 (r + ((pc l j).zs.length : Int)) = r + ((pc l j).zs.length : Int) := by rw [IntKind.wrap_i64]; omega
      have hs1 := hs.1
      have HS := Lib.hid hs.2
      obtain ⟨P, hP⟩ : ∃ P, pc l j = P := ⟨_, rfl⟩
      rw [hP] at hc hzj e1 hs1 HS
      obtain ⟨c0, c1, c2⟩ := hc
      obtain ⟨W, hW⟩ : ∃ W, W = wr.alloc (.cells #[.int .i64 P.f, .int .i64 P.m, .slice A P.zs.length cc] 36) := ⟨_, rfl⟩
      have hA : Below wr.heap.size wr W := by rw [hW]; exact (Below.refl _ _).alloc (Nat.le_refl _) _
      have tR : Trio 36 wr.heap.size (.int .i64 P.f) (.int .i64 P.m) (.slice A P.zs.length cc) W := by rw [hW]; exact Trio.new _ _ _ _ _
      have hbW := hbr.trans (hA.mono hbs)
      obtain ⟨p0, p1, p2⟩ := tR.cells
      subst hW
      clear hs h3 h4 hP hA hzj
      go_wp2
      go_roundw
      case rel => exact ⟨j + 1, _, by omega, by go_num, rfl, HS, by omega, hs1, hbW⟩
      case measure => simp [Go.RowKit.intOf]; omega
    · have hd : decide ((j : Int) < (n : Int)) = false := by simp; omega
      have HE := Lib.hid (show j = n by omega)
      go_wp2
      go_ret
      refine ⟨?_, hbr⟩
      have h1 := HQ.out
      have h2 := HT.out
      have h3 := HM.out
      have h4 := HL.out
      rw [HE.out, ← h4, List.take_length] at h1
      rw [show r = T by omega]; rfl

/-- Whether a body of n numbers has what a piece takes from it. -/
def canB (n : Nat) (P : Pc) : Bool := decide ((0 ≤ P.f ∧ P.f ≤ n) ∧ 0 ≤ P.m ∧ P.m ≤ n - P.f)

set_option maxRecDepth 100000 in
theorem can_impl (P : Pc) (A : Option Addr) (k c n : Nat) (w : World) (hn : n ≤ 1048576) :
    Calls Try.prog 32 #[(Value.agg #[Value.int IntKind.i64 (P.f), Value.int IntKind.i64 (P.m), Value.slice (A) (k) (c)]), .int .i64 n] w fun e w' => e = .returned (.bool (canB n P)) ∧ Below w.heap.size w w' := by
  obtain ⟨W, hW⟩ : ∃ W, W = w.alloc (.cells #[.int .i64 P.f, .int .i64 P.m, .slice A k c] 36) := ⟨_, rfl⟩
  have hbW : Below w.heap.size w W := by rw [hW]; exact (Below.refl _ _).alloc (Nat.le_refl _) _
  have tR : Trio 36 w.heap.size (.int .i64 P.f) (.int .i64 P.m) (.slice A k c) W := by rw [hW]; exact Trio.new _ _ _ _ _
  obtain ⟨p0, p1, p2⟩ := tR.cells
  subst hW
  by_cases h1 : 0 ≤ P.f ∧ P.f ≤ n
  · have w1 : IntKind.wrap .i64 ((n : Int) - P.f) = (n : Int) - P.f := by rw [IntKind.wrap_i64]; omega
    by_cases h2 : 0 ≤ P.m ∧ P.m ≤ n - P.f
    · rw [show canB n P = true by unfold canB; simp; omega]
      go_enter Try.func32, Try.ntmps32
      go_wp2_with (first
        | (go_at_call 42; (with_reducible (show Calls _ _ #[Value.int IntKind.i64 P.f, _, _] _ _)); refine (in_yes P.f 0 n _ (by omega) (by omega)).mono ?_; rintro e w1 ⟨rfl, rfl⟩)
        | (go_at_call 42; (with_reducible (show Calls _ _ #[Value.int IntKind.i64 P.m, _, _] _ _)); refine (in_yes P.m 0 (n - P.f) _ (by omega) (by omega)).mono ?_; rintro e w1 ⟨rfl, rfl⟩))
      go_ret
      exact ⟨rfl, hbW⟩
    · rw [show canB n P = false by unfold canB; simp; omega]
      go_enter Try.func32, Try.ntmps32
      go_wp2_with (first
        | (go_at_call 42; (with_reducible (show Calls _ _ #[Value.int IntKind.i64 P.f, _, _] _ _)); refine (in_yes P.f 0 n _ (by omega) (by omega)).mono ?_; rintro e w1 ⟨rfl, rfl⟩)
        | (go_at_call 42; (with_reducible (show Calls _ _ #[Value.int IntKind.i64 P.m, _, _] _ _)); refine (in_no P.m 0 (n - P.f) _ (by omega)).mono ?_; rintro e w1 ⟨rfl, rfl⟩))
      go_ret
      exact ⟨rfl, hbW⟩
  · rw [show canB n P = false by unfold canB; simp; omega]
    go_enter Try.func32, Try.ntmps32
    go_wp2_with (go_at_call 42; refine (in_no P.f 0 n _ (by omega)).mono ?_; rintro e w1 ⟨rfl, rfl⟩)
    go_ret
    exact ⟨rfl, hbW⟩

set_option maxHeartbeats 4000000 in
set_option maxRecDepth 100000 in
theorem apply_impl (lo hi lo2 hi2 : Nat) (w : World) (a : Option Addr) (n c : Nat) (xs : List Int) (hr : Row .i64 lo hi w a n xs) (hh : hi ≤ w.heap.size) (hcap : n ≤ c) (hn : n ≤ 1048576) (b : Option Addr) (m d : Nat) (l : List Pc) (hl : CRow lo2 hi2 w b m l) (hh2 : hi2 ≤ w.heap.size) (hm : room l ≤ 1048576) :
    Calls Try.prog 11 #[.slice a n c, .slice b m d] w (CAns w.heap.size (applyR xs l) (applyB xs l) w) := by
  obtain ⟨i0, hi0, hz0, hz1, hz2⟩ := info_parts Nts.info
  obtain ⟨hmn, hz⟩ := hl.room_at hm
  obtain ⟨R, hR⟩ : ∃ R, applyR xs l = R := ⟨_, rfl⟩
  obtain ⟨B, hB⟩ : ∃ B, applyB xs l = B := ⟨_, rfl⟩
  rw [hR, hB]
  have HR := Lib.hid hR
  have HB := Lib.hid hB
  have HL := Lib.hid hl.len
  have HX := Lib.hid hr.len
  have HW := Lib.hid hr.wf
  have h0 := OwnI.made .i64 3 (base := w.heap.size) w (Nat.le_refl _)
  have hb0 : Below w.heap.size w (w.alloc (.cells #[] 3)) := (Below.refl _ _).alloc (Nat.le_refl _) _
  clear hR hB hm
  go_enter Try.func11, Try.ntmps11
  go_wp2
  go_loopw [6, 12] (fun v i wr => ∃ (j : Nat) (os : List Int), j ≤ m ∧ i = .int .i64 j ∧ OwnI .i64 3 w.heap.size wr v os.length os ∧ os.length ≤ 1000 ∧ Hid (applyL xs (l.drop j) os = applyL xs l []) ∧ Hid (∀ z ∈ os, (Lit.int .i64 z).wf = true) ∧ Below w.heap.size w wr) (fun _ i _ => m - (Go.RowKit.intOf i).toNat)
  case atStart => exact ⟨0, [], Nat.zero_le _, rfl, h0, by simp, by simp [Hid], by simp [Hid], hb0⟩
  case round =>
    obtain ⟨j, os, hj, rfl, hv, hos, HA, HO, hbr⟩ := hrel
    clear h0 hb0
    have hbs := hbr.size
    obtain ⟨va, vc, rfl, hvc, hvm, hvo⟩ := hv.own HO.out
    by_cases hlt : j < m
    · obtain ⟨g, off, A, cc, rfl, _, _, hc, hla, wP⟩ := (hl.under hbr hh2).at hlt
      have hzj := hz j hlt
      have hrr := hr.under hbr hh
      have hjl : j < l.length := by rw [HL.out]; exact hlt
      have HN := Lib.hid (fun h => apply_none (xs := xs) hjl HA.out h)
      have HS := Lib.hid (fun h => apply_some (xs := xs) hjl HA.out h)
      obtain ⟨P, hP⟩ : ∃ P, pc l j = P := ⟨_, rfl⟩
      rw [hP] at hc hla wP hzj HN HS
      obtain ⟨c0, c1, c2⟩ := hc
      obtain ⟨W, hW⟩ : ∃ W, W = wr.alloc (.cells #[.int .i64 P.f, .int .i64 P.m, .slice A P.zs.length cc] 36) := ⟨_, rfl⟩
      have hA : Below wr.heap.size wr W := by rw [hW]; exact (Below.refl _ _).alloc (Nat.le_refl _) _
      have tR : Trio 36 wr.heap.size (.int .i64 P.f) (.int .i64 P.m) (.slice A P.zs.length cc) W := by rw [hW]; exact Trio.new _ _ _ _ _
      have hsW := hA.size
      have hbW := hbr.trans (hA.mono hbs)
      have hvW := hv.below hA
      have hrW := hrr.below hA
      have hlW := hla.row.below hA
      have p012 := tR.cells
      obtain ⟨p0, p1, p2⟩ := p012
      have hcan := can_impl P A P.zs.length cc n W hn
      have hfit : fits xs.length os.length P = decide (0 ≤ P.f ∧ (0 ≤ P.m ∧ P.m ≤ n) ∧ P.f ≤ n - P.m ∧ (os.length : Int) + P.m + P.zs.length ≤ 1000) := by unfold fits; rw [HX.out]
      have HF := Lib.hid hfit
      have bf := bounds_i64 wP.1
      have bm := bounds_i64 wP.2
      subst hW
      clear hP hfit hA hv hrr hla hjl hvo
      by_cases t1 : (0 ≤ P.f ∧ P.f ≤ n) ∧ 0 ≤ P.m ∧ P.m ≤ n - P.f
      rotate_left
      · rw [show canB n P = false by unfold canB; simpa using t1] at hcan
        clear hvW hrW hlW
        go_wp2_with fail
        go_at_call 32
        refine hcan.mono ?_
        rintro e w1 ⟨rfl, hb1⟩
        have hbE := (hbW.trans (hb1.mono hbW.size)).alloc (hbW.trans (hb1.mono hbW.size)).size (.cells #[] 3)
        clear hcan
        go_wp2
        have hno := HN.out (by rw [HF.out]; simp; omega)
        have e1 : R = [] := by rw [← HR.out]; unfold applyR; rw [hno]; rfl
        have e2 : B = false := by rw [← HB.out]; unfold applyB; rw [hno]; rfl
        subst e1 e2
        go_ret2
        exact ⟨_, _, rfl, ⟨rfl, by simp, fun h => absurd h (by simp)⟩, Nat.le_refl _, by unfold maxLen; omega, hbE⟩
      rw [show canB n P = true by unfold canB; simpa using t1] at hcan
      have w2 : IntKind.wrap .i64 ((os.length : Int) + P.m) = (os.length : Int) + P.m := by rw [IntKind.wrap_i64]; omega
      have w3 : IntKind.wrap .i64 ((os.length : Int) + P.m + (P.zs.length : Int)) = (os.length : Int) + P.m + (P.zs.length : Int) := by rw [IntKind.wrap_i64]; omega
      have w4 : IntKind.wrap .i64 (P.f + P.m) = P.f + P.m := by rw [IntKind.wrap_i64]; omega
      by_cases t4 : (os.length : Int) + P.m + (P.zs.length : Int) > 1000
      · have d4 : decide ((os.length : Int) + P.m + (P.zs.length : Int) > 1000) = true := by simpa using t4
        have d4b : decide (1000 < (os.length : Int) + P.m + (P.zs.length : Int)) = true := by simpa using t4
        clear hvW hrW hlW
        go_wp2_with fail
        go_at_call 32
        refine hcan.mono ?_
        rintro e w1 ⟨rfl, hb1⟩
        have hbE := (hbW.trans (hb1.mono hbW.size)).alloc (hbW.trans (hb1.mono hbW.size)).size (.cells #[] 3)
        obtain ⟨q0, q1, q2⟩ := (tR.below hb1).cells
        clear hcan
        go_wp2
        have hno := HN.out (by rw [HF.out]; simp; omega)
        have e1 : R = [] := by rw [← HR.out]; unfold applyR; rw [hno]; rfl
        have e2 : B = false := by rw [← HB.out]; unfold applyB; rw [hno]; rfl
        subst e1 e2
        go_ret2
        exact ⟨_, _, rfl, ⟨rfl, by simp, fun h => absurd h (by simp)⟩, Nat.le_refl _, by unfold maxLen; omega, hbE⟩
      have d4 : decide ((os.length : Int) + P.m + (P.zs.length : Int) > 1000) = false := by simp; omega
      have d4b : decide (1000 < (os.length : Int) + P.m + (P.zs.length : Int)) = false := by simp; omega
      have hyes := HS.out (by rw [HF.out]; simp; omega)
      have HY := Lib.hid hyes
      have hsl := fun V => Nts.cut_mid V a n c P.f (P.f + P.m) P.f.toNat (P.f + P.m).toNat (by omega) (by omega) (by omega) (by omega)
      obtain ⟨aD, haD⟩ : ∃ aD, (if c = P.f.toNat then a else a.map (·.add P.f.toNat)) = aD := ⟨_, rfl⟩
      obtain ⟨K, hK⟩ : ∃ K, (P.f + P.m).toNat - P.f.toNat = K := ⟨_, rfl⟩
      obtain ⟨cD, hcD⟩ : ∃ cD, c - P.f.toNat = cD := ⟨_, rfl⟩
      rw [haD, hK, hcD] at hsl
      have hmid : ∀ V, Row .i64 lo hi V a n xs → Row .i64 lo hi V aD K ((xs.take (P.f + P.m).toNat).drop P.f.toNat) := fun V h => by
        have := Nts.Row.mid (c := c) h (f := P.f.toNat) (h := (P.f + P.m).toNat) (by omega) (by omega) hcap
        rw [haD, hK] at this
        exact this
      have hK4 : os.length + K + P.zs.length ≤ 1000 := by omega
      clear haD hK hcD hyes
      go_wp2_with fail
      go_at_call 32
      refine hcan.mono ?_
      rintro e w1 ⟨rfl, hb1⟩
      have hbV := hbW.trans (hb1.mono hbW.size)
      have hvV := hvW.below hb1
      have hmV := hmid _ (hrW.below hb1)
      have hlV := hlW.below hb1
      have tV := tR.below hb1
      obtain ⟨q0, q1, q2⟩ := tV.cells
      clear hcan hbW hvW hrW hlW tR p0 p1 p2 hb1 hmid
      have hwT := taken_wf (xs := xs) (P := P) HW.out hlV.wf
      have HWT := Lib.hid hwT
      clear hwT
      go_wp2_with (first
        | (at_builtin; refine wpList_append_row_keep rfl _ _ 24 rfl w.heap.size 3 i0 _ 8 Try.underlying24 hi0 hz0 hz1 hz2 rfl _ os.length os rfl hvV lo hi aD K cD _ rfl hmV ?c1 ?c2 ?c3 ?_; (case c1 => unfold maxLen; omega); (case c2 => omega); (case c3 => exact hbV.size); intro v2 w2 ho2 hb2 hk2; have tR2 : Trio 36 wr.heap.size (.int .i64 P.f) (.int .i64 P.m) (.slice A P.zs.length cc) w2 := (hk2 _ tV.lt (own_ne_trio hvV tV (by decide))).trans tV; obtain ⟨s0, s1, s2⟩ := tR2.cells; have hl2 := hlV.under hb2 hh2)
        | (at_builtin; refine wpList_append_row rfl _ _ 24 rfl w.heap.size 3 i0 _ 8 Try.underlying24 hi0 hz0 hz1 hz2 rfl _ (os.length + K) _ rfl ho2 lo2 hi2 A P.zs.length cc _ rfl hl2 ?c1 ?c2 ?c3 ?_; (case c1 => unfold maxLen; omega); (case c2 => omega); (case c3 => exact (hbV.trans hb2).size); intro v3 w3 ho3 hb3))
      have hos3 : (os ++ (xs.take (P.f + P.m).toNat).drop P.f.toNat) ++ P.zs = os ++ taken xs P := by unfold taken; rw [List.append_assoc]
      rw [hos3] at ho3
      have hl3 := ho3.len
      rw [← hl3] at ho3
      have hbF := (hbV.trans hb2).trans hb3
      have HWO := Lib.hid (show ∀ z ∈ os ++ taken xs P, (Lit.int .i64 z).wf = true from fun z hz => (List.mem_append.1 hz).elim (HO.out z) (HWT.out z))
      clear hos3
      go_wp2
      go_roundw
      case rel => exact ⟨j + 1, os ++ taken xs P, by omega, by go_num, ho3, by omega, HY, HWO, hbF⟩
      case measure => simp [Go.RowKit.intOf]; omega
    · have hd : decide ((j : Int) < (m : Int)) = false := by simp; omega
      have HE := Lib.hid (show j = m by omega)
      go_wp2
      have h1 := HA.out
      rw [HE.out, ← HL.out, List.drop_length] at h1
      simp only [applyL] at h1
      have e1 : R = os := by rw [← HR.out]; unfold applyR; rw [← h1]; rfl
      have e2 : B = true := by rw [← HB.out]; unfold applyB; rw [← h1]; rfl
      subst e1 e2
      go_ret2
      exact ⟨_, _, rfl, hvo, hvc, hvm, hbr⟩

set_option maxHeartbeats 4000000 in
set_option maxRecDepth 100000 in
theorem pieces_impl (lo hi lo2 hi2 : Nat) (w : World) (a : Option Addr) (n c : Nat) (xs : List Int) (b : Option Addr) (m d : Nat) (ys : List Int) (hr : Row .i64 lo hi w a n xs) (hh : hi ≤ w.heap.size) (hs : Row .i64 lo2 hi2 w b m ys) (hh2 : hi2 ≤ w.heap.size) (_hc1 : n ≤ c) (hcap : m ≤ d) (hn : n ≤ 1048576) (hm : m ≤ 1048576) :
    Calls Try.prog 10 #[.slice a n c, .slice b m d] w (CList w.heap.size (piecesL xs ys) w) := by
  obtain ⟨i0, hi0, hz0, hz1, hz2⟩ := info_parts Nts.info
  have hX := hr.len
  have hY := hs.len
  by_cases big : 100 < n ∨ 100 < m
  · have e : piecesL xs ys = [] := by unfold piecesL; rw [if_pos (by omega)]
    rw [e]
    have hbE : Below w.heap.size w (w.alloc (.cells #[] 36)) := (Below.refl _ _).alloc (Nat.le_refl _) _
    by_cases h1 : 100 < n
    · have d1 : decide ((n : Int) > 100) = true := by simp; omega
      have d1b : decide ((100 : Int) < n) = true := by simp; omega
      clear hr hs hX hY
      go_enter Try.func10, Try.ntmps10
      go_wp2
      go_ret
      exact ⟨_, _, rfl, COwn.nil _ _ _ _, Nat.le_refl _, Nat.zero_le _, hbE⟩
    · have d1 : decide ((n : Int) > 100) = false := by simp; omega
      have d1b : decide ((100 : Int) < n) = false := by simp; omega
      have d2 : decide ((m : Int) > 100) = true := by simp; omega
      have d2b : decide ((100 : Int) < m) = true := by simp; omega
      clear hr hs hX hY
      go_enter Try.func10, Try.ntmps10
      go_wp2
      go_ret
      exact ⟨_, _, rfl, COwn.nil _ _ _ _, Nat.le_refl _, Nat.zero_le _, hbE⟩
  have d1 : decide ((n : Int) > 100) = false := by simp; omega
  have d1b : decide ((100 : Int) < n) = false := by simp; omega
  have d2 : decide ((m : Int) > 100) = false := by simp; omega
  have d2b : decide ((100 : Int) < m) = false := by simp; omega
  have hn1 : n ≤ 100 := by omega
  have hm1 : m ≤ 100 := by omega
  have HX := Lib.hid hX
  have HY := Lib.hid hY
  obtain ⟨L, hL⟩ : ∃ L, piecesL xs ys = L := ⟨_, rfl⟩
  rw [hL]
  have HLL := Lib.hid hL
  have hA : Below w.heap.size w (w.alloc (.cells #[.slice a n c, .slice b m d, .int .i64 0, .int .i64 0] 50)) := (Below.refl _ _).alloc (Nat.le_refl _) _
  have hrun := run_impl lo hi lo2 hi2 w.heap.size a n c b m d xs ys _ (Quad.new 50 (.slice a n c) (.slice b m d) (.int .i64 0) (.int .i64 0) w) (hr.below hA) hh (hs.below hA) hh2 hn1 hm1
  have hle := fore_le xs ys
  have hla := aft_le xs ys (fore xs ys) hle.1 hle.2
  rw [hX, hY] at hle hla
  obtain ⟨j, hj⟩ : ∃ j, fore xs ys = j := ⟨_, rfl⟩
  rw [hj] at hrun hle hla
  obtain ⟨e, he⟩ : ∃ e, aft xs ys j = e := ⟨_, rfl⟩
  rw [he] at hrun hla
  have hLe : L = [⟨0, (j : Int), (ys.take (m - e)).drop j⟩, ⟨((n - e : Nat) : Int), (e : Int), []⟩] := by
    rw [← hL]
    unfold piecesL
    rw [if_neg (by omega), hj, he, hX, hY]
  have HLE := Lib.hid hLe
  clear big hn hm hX hY hL hLe hj he HLL HX HY
  go_enter Try.func10, Try.ntmps10
  go_wp2_with fail
  go_at_call 31
  refine hrun.mono ?_
  rintro en W ⟨rfl, hzW, hqW⟩
  have hBW : Below w.heap.size w W := hA.trans (hzW.below (Nat.le_refl _) hA.size)
  have hsW := hBW.size
  have hqA := Quad.alloc hqW (.cells #[] 3)
  have hlt := hqW.lt
  have hBA : Below W.heap.size W (W.alloc (.cells #[] 3)) := (Below.refl _ _).alloc (Nat.le_refl _) _
  have hsR : Row .i64 lo2 hi2 (W.alloc (.cells #[] 3)) b m ys := (hs.under hBW hh2).below hBA
  have hown := OwnI.made .i64 3 (base := W.heap.size) W (Nat.le_refl _)
  obtain ⟨q0, q1, q2, q3⟩ := hqA.cells
  have w1 : IntKind.wrap .i64 ((m : Int) - (e : Int)) = (m : Int) - (e : Int) := by rw [IntKind.wrap_i64]; omega
  have w2 : IntKind.wrap .i64 ((n : Int) - (e : Int)) = (n : Int) - (e : Int) := by rw [IntKind.wrap_i64]; omega
  have hsl := fun V => Nts.cut_mid V b m d (j : Int) ((m : Int) - (e : Int)) j (m - e) rfl (by omega) (by omega) (by omega)
  have hmid := Nts.Row.mid (c := d) hsR (f := j) (h := m - e) (by omega) (by omega) hcap
  obtain ⟨aD, haD⟩ : ∃ aD, (if d = j then b else b.map (·.add j)) = aD := ⟨_, rfl⟩
  obtain ⟨K, hK⟩ : ∃ K, m - e - j = K := ⟨_, rfl⟩
  obtain ⟨cD, hcD⟩ : ∃ cD, d - j = cD := ⟨_, rfl⟩
  rw [haD, hK, hcD] at hsl
  rw [haD, hK] at hmid
  have hKl : K ≤ 100 := by omega
  have hne : ((n : Int) - (e : Int)) = ((n - e : Nat) : Int) := by omega
  have HNE := Lib.hid hne
  have wj : (Lit.int .i64 (j : Int)).wf = true := WalkArith.wf_i64 (by omega)
  have we : (Lit.int .i64 (e : Int)).wf = true := WalkArith.wf_i64 (by omega)
  have wn : (Lit.int .i64 ((n : Int) - (e : Int))).wf = true := WalkArith.wf_i64 (by omega)
  clear haD hK hcD hr hs hne hsR hrun hA hzW
  go_wp2_with (at_builtin; refine wpList_append_row rfl _ _ 24 rfl W.heap.size 3 i0 _ 8 Try.underlying24 hi0 hz0 hz1 hz2 rfl _ 0 [] rfl hown lo2 hi2 aD K cD _ rfl hmid ?c1 ?c2 ?c3 ?_; (case c1 => unfold maxLen; omega); (case c2 => omega); (case c3 => exact hBA.size); intro v2 w2 ho2 hb2; rw [Nat.zero_add, List.nil_append] at ho2; obtain ⟨a2, c2, rfl, k1, k2, ho3⟩ := ho2.own hmid.wf; have q9 := (hqA.under hb2 hlt).cells; obtain ⟨r0, r1, r2, r3⟩ := q9)
  have hBB := hBW.trans ((hBA.trans hb2).mono hsW)
  have hT := two_own (T := 36) (base := w.heap.size) (f0 := 0) (m0 := (j : Int)) (f1 := (n : Int) - (e : Int)) (m1 := (e : Int)) hBB.size (ho3.more hsW (Nat.le_refl _)) hmid.len k1 k2 ⟨show (Lit.int .i64 0).wf = true by decide, wj⟩ ⟨wn, we⟩
  rw [HNE.out] at hT
  have hBC := hBB.alloc hBB.size (.cells #[.int .i64 0, .int .i64 j, .slice a2 K c2, .int .i64 ((n : Int) - (e : Int)), .int .i64 e, .slice none 0 0] 36)
  go_ret
  have e1 := HLE.out
  subst e1
  exact ⟨_, _, rfl, by rw [← HNE.out] at hT ⊢; exact hT, Nat.le_refl _, by unfold maxLen; simp, hBC⟩

set_option maxRecDepth 100000 in
theorem worth_impl (lo hi lo2 hi2 : Nat) (w : World) (a : Option Addr) (n c : Nat) (xs : List Int) (b : Option Addr) (m d : Nat) (ys : List Int) (hr : Row .i64 lo hi w a n xs) (hh : hi ≤ w.heap.size) (hs : Row .i64 lo2 hi2 w b m ys) (hh2 : hi2 ≤ w.heap.size) (hc1 : n ≤ c) (hcap : m ≤ d) (hn : n ≤ 1048576) (hm : m ≤ 1048576) :
    Calls Try.prog 14 #[.slice a n c, .slice b m d] w fun e w' => e = .returned (.bool (worthB xs ys)) ∧ Below w.heap.size w w' := by
  have hP := pieces_impl lo hi lo2 hi2 w a n c xs b m d ys hr hh hs hh2 hc1 hcap hn hm
  have hY := hs.len
  obtain ⟨L, hL⟩ : ∃ L, piecesL xs ys = L := ⟨_, rfl⟩
  have hrm := room_pieces (xs := xs) (ys := ys)
  have hw : worthB xs ys = decide ((room L : Int) < (m : Int)) := by unfold worthB; rw [hL, hY]
  rw [hw]
  rw [hL] at hP hrm
  obtain ⟨T, hT⟩ : ∃ T : Int, (room L : Int) = T := ⟨_, rfl⟩
  rw [hT]
  clear hL hw hr hs hY
  go_enter Try.func14, Try.ntmps14
  go_wp2_with fail
  go_at_call 10
  refine hP.mono ?_
  rintro e w1 ⟨a1, c1, rfl, ho, _, _, hb1⟩
  have hC := cost_impl _ _ w1 a1 L.length c1 L ho.row (Nat.le_refl _) (by omega)
  rw [hT] at hC
  clear hP ho hT hrm
  go_wp2_with fail
  go_at_call 13
  refine hC.mono ?_
  rintro e w2 ⟨rfl, hb2⟩
  go_wp2
  go_ret
  exact ⟨rfl, hb1.trans (hb2.mono hb1.size)⟩
end Go.Proofs.Ytkjglmfnlpapbaa.Pieces
