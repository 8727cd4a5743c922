/-
  For every row of bytes that a test is drawn from, the law FnParts returns true: equal resources are stored once, and what was put can be got.
  Conditions: the argument can be read; the program's variables hold their sentinels.
-/
import Derived.Test.YtedjclnojocjkaaGreatDoorPutI
import Derived.Test.YtedjclnojocjkaaGreatDoorTakeI
import Derived.Test.YtedjclnojocjkaaGreatDoorGet
import Derived.Test.YtedjclnojocjkaaGreatDoorSameL
import Derived.Test.YtedjclnojocjkaaGreatDoorPartsMath
import Derived.Test.YtedjclnojocjkaaGreatDoorDraws7
import Derived.Test.YtedjclnojocjkaaGreatDoorResSize
namespace Go.Proofs.YtedjclnojocjkaaGreatDoor.FnPartsW
open Go Go.RowKit Go.Proofs.YtedjclnojocjkaaGreatDoor.Mem Go.Proofs.YtedjclnojocjkaaGreatDoor.Adr Go.Proofs.YtedjclnojocjkaaGreatDoor.Res Go.Proofs.YtedjclnojocjkaaGreatDoor.Parts
set_option linter.unusedVariables false

theorem bytes_under {B C : Nat} {w w' : World} {a : Option Addr} {n : Nat} (h : Draw.Bytes B w a n) (hb : Below C w w') (hB : B ≤ C) : Draw.Bytes B w' a n :=
  ⟨h.1, fun j hj => by
    obtain ⟨b, off, x, ha, hbB, hx, hc⟩ := h.2 j hj
    exact ⟨b, off, x, ha, hbB, hx, by rw [Mem.cell_of_heap (hb.block b (by omega))]; exact hc⟩⟩
theorem sameL_comm (l m : List Prt) : sameL m l = sameL l m := by
  rw [Bool.eq_iff_iff, sameL_iff, sameL_iff]
  exact ⟨fun h => h.symm, fun h => h.symm⟩
theorem sameL_self (l : List Prt) : sameL l l = true := (sameL_iff l l).2 rfl
theorem eqP (P Q : Prt) : P = Q → decide (P.k = Q.k ∧ (P.h = Q.h ∧ P.p = Q.p ∧ P.q = Q.q) ∧ P.zs = Q.zs) = true := fun h => by subst h; simp
/-- What the two stores are, where the part was put. -/
theorem put_facts {X : Prt} {l : List Prt} (hX1 : X.u = 1) (hB : putB X l = true) : putL X l = pd X l ∧ storeB l = true ∧ storeB (pd X l) = true ∧ takeB X.d (pd X l) = true ∧ takeL X.d (pd X l) = l ∧ fnd X.d (pd X l) < (pd X l).length ∧ (room l : Int) ≤ each l := by
  have h0 : putL X l = pd X l := by unfold putL; rw [if_pos hB]
  have h1 := hB
  simp only [putB, Bool.and_eq_true] at h1
  obtain ⟨hst, hst2⟩ := h1
  obtain ⟨_, hok, hrise⟩ := (storeB_iff l).1 hst
  have hu : ∀ P ∈ l, 1 ≤ P.u := fun P hP => (okP_uses (hok P hP)).1
  have hf : fnd X.d (pd X l) < (pd X l).length := by
    by_cases h : fnd X.d l < l.length
    · exact (fnd_pd_yes hrise h).2.1
    · exact (fnd_pd_no h).1
  have ht : takeB X.d (pd X l) = true := by simp [takeB, hst2, hf]
  exact ⟨h0, hst, hst2, ht, by unfold takeL; rw [if_pos ht]; exact td_pd hX1 hrise hu, hf, room_each hu⟩
theorem put_yes {X : Prt} {l : List Prt} (hB : putB X l = true) (h : fnd X.d l < l.length) : pt (pd X l) (fnd X.d (pd X l)) = inc (pt l (fnd X.d l)) ∧ room (pd X l) = room l ∧ each (pd X l) = each l + (((pt l (fnd X.d l)).zs.length : Int) + 1) := by
  simp only [putB, Bool.and_eq_true] at hB
  obtain ⟨hst, hst2⟩ := hB
  obtain ⟨_, hok, hrise⟩ := (storeB_iff l).1 hst
  obtain ⟨_, hok2, _⟩ := (storeB_iff _).1 hst2
  obtain ⟨h1, h2, h3⟩ := fnd_pd_yes hrise h
  have h4 := okP_uses (hok2 _ (pt_mem h2))
  rw [h3] at h4
  exact ⟨h3, room_pd_yes hrise h, each_pd_yes hrise h (okP_uses (hok _ (pt_mem h))).1 h4.2⟩
theorem put_no {X : Prt} {l : List Prt} (hX1 : X.u = 1) (h : ¬ fnd X.d l < l.length) : pt (pd X l) (fnd X.d (pd X l)) = X ∧ room (pd X l) = room l + (1 + X.zs.length) ∧ each (pd X l) = each l + ((X.zs.length : Int) + 1) :=
  ⟨(fnd_pd_no h).2, room_pd_no h, each_pd_no hX1 h⟩

set_option maxHeartbeats 16000000 in
set_option maxRecDepth 100000 in
theorem walk_small (a : Option Addr) (n c : Nat) (w : World) (hb : Draw.Bytes w.heap.size w a n) (hn : n ≤ 1048576) (a0 a1 : Addr) (hN : NoStore a0 w) (hP : NoPart a1 w) :
    Calls Tryz.prog 3 #[.slice a n c] w fun e w' => e = .returned (.bool true) ∧ Below w.heap.size w w' := by
  go_enter Tryz.func3, Tryz.ntmps3
  go_wp2_with (go_at_call 5; go_in)
  go_at_call 6
  refine (Draw.draw_put w.heap.size a n c _ hb (Nat.le_refl _)).mono ?_
  rintro e w1 ⟨aL, nL, cL, l, k, h, p, q, aR, nR, cR, zs, rfl, fL, hrm, fR, hnR, hRc, hRm, wk, wh, wp, wq, hb1⟩
  have hs1 := hb1.size
  have hB1 := hb1
  have hN := hN.below hb1
  have hP := hP.below hb1
  have by1 := bytes_under hb hb1 (Nat.le_refl _)
  have hzR := fR.len
  subst hzR
  have hbw := hb
  clear hb by1

  have hA1 : Below w1.heap.size w1 (w1.alloc (.cells #[.int .i64 k, .slice aR zs.length cR, .int .i64 h, .int .i64 p, .int .i64 q] 29)) := (Below.refl _ _).alloc (Nat.le_refl _) _
  have fL := fL.below hA1
  have fR := fR.below hA1
  have hN := hN.below hA1
  have hP := hP.below hA1
  have QR := Quint.new 29 (.int .i64 k) (.slice aR zs.length cR) (.int .i64 h) (.int .i64 p) (.int .i64 q) w1
  have hBy := hB1.trans (hA1.mono hB1.size)
  clear hB1; have hB1 := hBy; clear hBy
  have hz1A : (w1.alloc (.cells #[.int .i64 k, .slice aR zs.length cR, .int .i64 h, .int .i64 p, .int .i64 q] 29)).heap.size = w1.heap.size + 1 := size_alloc _ _
  obtain ⟨X, hX⟩ : ∃ X : Prt, X = ⟨dig k h p q zs.length zs, k, zs, h, p, q, 1⟩ := ⟨_, rfl⟩
  have dgr := dig_range k h p q zs.length zs
  have wX : X.Wf := by rw [hX]; exact ⟨WalkArith.wf_i64 (show -9223372036854775808 ≤ dig k h p q zs.length zs ∧ dig k h p q zs.length zs ≤ 9223372036854775807 by omega), wk, wh, wp, wq, show (Lit.int .i64 1).wf = true by decide⟩
  have uX : X.u = 1 := by rw [hX]
  have zX : X.zs.length = zs.length := by rw [hX]
  have dX : X.d = dig k h p q zs.length zs := by rw [hX]
  have hPut := put_impl 0 w1.heap.size 0 w1.heap.size _ aL nL cL l X aR cR a0 a1 fL (by omega) (by omega) (by rw [hX]; exact fR) (by omega) (by omega) hRm (by omega) wX (by rw [hX]; rfl) uX hN hP
  rw [show (Value.agg #[Value.int IntKind.i64 (X.k), Value.slice (aR) (X.zs.length) (cR), Value.int IntKind.i64 (X.h), Value.int IntKind.i64 (X.p), Value.int IntKind.i64 (X.q)]) = (Value.agg #[Value.int IntKind.i64 (k), Value.slice (aR) (zs.length) (cR), Value.int IntKind.i64 (h), Value.int IntKind.i64 (p), Value.int IntKind.i64 (q)]) by rw [hX]] at hPut
  have rmL := putL_room X l
  obtain ⟨R, hR⟩ : ∃ R, putL X l = R := ⟨_, rfl⟩
  have hXe := Lib.hid hX
  have wd := wX.1
  rw [dX] at wd
  obtain ⟨d, hd⟩ : ∃ d, dig k h p q zs.length zs = d := ⟨_, rfl⟩
  rw [hd] at dX wd
  have hdd := Lib.hid hd
  have hdX := Lib.hid dX
  have huX := Lib.hid uX
  have hzX := Lib.hid zX
  rw [hR] at hPut rmL
  have hRR := Lib.hid hR
  have hrR : room R ≤ 200 := by omega
  cases hB : putB X l with
  | false =>
    rw [hB] at hPut
    obtain rfl : R = l := by rw [← hRR.out]; unfold putL; rw [hB]; rfl
    clear hX dgr wX uX zX dX hR hd hB
    obtain ⟨qr_2_0, qr_2_1, qr_2_2, qr_2_3, qr_2_4⟩ := QR.cells
    go_wp2_with fail
    go_at_call 7
    refine (hPut).mono ?_
    rintro e w2 ⟨vG, G, rfl, hv, hb2⟩
    clear qr_2_0 qr_2_1 qr_2_2 qr_2_3 qr_2_4
    have hs2 : (w1.alloc (.cells #[.int .i64 k, .slice aR zs.length cR, .int .i64 h, .int .i64 p, .int .i64 q] 29)).heap.size ≤ w2.heap.size := hb2.size
    have fL := fL.below hb2
    have fR := fR.below hb2
    have hN := hN.below hb2
    have hP := hP.below hb2
    have QR := QR.below hb2
    have hB2 := hB1.trans (hb2.mono hB1.size)
    obtain ⟨aG, cG, rfl, hGc, hGm, hGo⟩ := hv.shape
    have gG := hGo.row; clear hGo hv hPut
    go_wp2_with fail
    go_at_call 8
    refine (stores_impl _ _ _ _ _ aG aL _ nL cG cL _ _ gG fL (by omega) (by omega) (by omega) (by omega)).mono ?_
    rintro e w3 ⟨rfl, hb3⟩
    have hs3 : w2.heap.size ≤ w3.heap.size := hb3.size
    have fL := fL.below hb3
    have fR := fR.below hb3
    have hN := hN.below hb3
    have hP := hP.below hb3
    have QR := QR.below hb3
    have gG := gG.below hb3
    have hB3 := hB2.trans (hb3.mono hB2.size)
    rw [sameL_self]
    go_wp2
    go_ret
    exact ⟨rfl, hB3⟩
  | true =>
  rw [hB] at hPut
  obtain ⟨e0, hst, hst2, htB, htL, hfp, hre⟩ := put_facts uX hB
  rw [hR] at e0
  have hYes := fun h => put_yes (X := X) (l := l) hB h
  have hNo := fun h => put_no (X := X) (l := l) uX h
  rw [dX, ← e0] at hYes hNo
  rw [dX, ← e0] at htB htL hfp
  rw [← e0] at hst2
  have hY := Lib.hid hYes
  have hNN := Lib.hid hNo
  have HtB := Lib.hid htB
  have HtL := Lib.hid htL
  have HfP := Lib.hid hfp
  have Hs2 := Lib.hid hst2
  have wFl := fL.wf
  clear hX dgr wX uX zX dX hR hd hB e0 hYes hNo htB htL hst2 hst hfp
  obtain ⟨qr_2_0, qr_2_1, qr_2_2, qr_2_3, qr_2_4⟩ := QR.cells
  go_wp2_with fail
  go_at_call 7
  refine (hPut).mono ?_
  rintro e w2 ⟨vG, G, rfl, hv, hb2⟩
  clear qr_2_0 qr_2_1 qr_2_2 qr_2_3 qr_2_4
  have hs2 : (w1.alloc (.cells #[.int .i64 k, .slice aR zs.length cR, .int .i64 h, .int .i64 p, .int .i64 q] 29)).heap.size ≤ w2.heap.size := hb2.size
  have fL := fL.below hb2
  have fR := fR.below hb2
  have hN := hN.below hb2
  have hP := hP.below hb2
  have QR := QR.below hb2
  have hB2 := hB1.trans (hb2.mono hB1.size)
  obtain ⟨aG, cG, rfl, hGc, hGm, hGo⟩ := hv.shape
  have gG := hGo.row; clear hGo hv hPut
  obtain ⟨qr_3_0, qr_3_1, qr_3_2, qr_3_3, qr_3_4⟩ := QR.cells
  go_wp2_with fail
  go_at_call 9
  refine (digest_impl 0 w1.heap.size k h p q _ aR zs.length cR zs fR (by omega) wk wh wp wq).mono ?_
  rintro e w3 ⟨rfl, hb3⟩
  clear qr_3_0 qr_3_1 qr_3_2 qr_3_3 qr_3_4
  have hs3 : w2.heap.size ≤ w3.heap.size := hb3.size
  have fL := fL.below hb3
  have fR := fR.below hb3
  have hN := hN.below hb3
  have hP := hP.below hb3
  have QR := QR.below hb3
  have gG := gG.below hb3
  have hB3 := hB2.trans (hb3.mono hB2.size)
  rw [hdd.out]
  go_wp2_with fail
  go_at_call 10
  refine (get_impl _ _ _ aG R.length cG R gG (by omega) d (by omega)).mono ?_
  rintro e w4 ⟨aY, cY, rfl, oY, hYc, hYm, hb4⟩
  have hs4 : w3.heap.size ≤ w4.heap.size := hb4.size
  have fL := fL.below hb4
  have fR := fR.below hb4
  have hN := hN.below hb4
  have hP := hP.below hb4
  have QR := QR.below hb4
  have gG := gG.below hb4
  have hB4 := hB3.trans (hb4.mono hB3.size)
  have rY := oY.row; clear oY
  rw [show decide (fnd d R < R.length) = true by simpa using HfP.out]
  have wFR := gG.wf
  have wY := wFR _ (pt_mem HfP.out)
  have zY : (pt R (fnd d R)).zs.length ≤ 200 := by
    have q1 := bodies_take R _ HfP.out
    have q2 := bodies_le R (fnd d R + 1)
    have q3 := room_eq R
    omega
  obtain ⟨Y, hYe⟩ : ∃ Y, pt R (fnd d R) = Y := ⟨_, rfl⟩
  rw [hYe] at rY wY zY ⊢
  have HYe := Lib.hid hYe
  clear hYe wFR
  have hA4 : Below w4.heap.size w4 (w4.alloc (.cells #[.int .i64 Y.k, .slice aY Y.zs.length cY, .int .i64 Y.h, .int .i64 Y.p, .int .i64 Y.q] 29)) := (Below.refl _ _).alloc (Nat.le_refl _) _
  have fL := fL.below hA4
  have fR := fR.below hA4
  have hN := hN.below hA4
  have hP := hP.below hA4
  have QR := QR.below hA4
  have gG := gG.below hA4
  have rY := rY.below hA4
  have QY := Quint.new 29 (.int .i64 Y.k) (.slice aY Y.zs.length cY) (.int .i64 Y.h) (.int .i64 Y.p) (.int .i64 Y.q) w4
  have hBy := hB4.trans (hA4.mono hB4.size)
  clear hB4; have hB4 := hBy; clear hBy
  have hz4A : (w4.alloc (.cells #[.int .i64 Y.k, .slice aY Y.zs.length cY, .int .i64 Y.h, .int .i64 Y.p, .int .i64 Y.q] 29)).heap.size = w4.heap.size + 1 := size_alloc _ _
  obtain ⟨qr_5_0, qr_5_1, qr_5_2, qr_5_3, qr_5_4⟩ := QR.cells
  go_wp2_with fail
  go_at_call 12
  refine (digest_spec 0 w1.heap.size k h p q _ aR zs.length cR zs fR (by omega) wk wh wp wq).mono ?_
  rintro e w5 ⟨rfl, hb5⟩
  clear qr_5_0 qr_5_1 qr_5_2 qr_5_3 qr_5_4
  have hs5 : (w4.alloc (.cells #[.int .i64 Y.k, .slice aY Y.zs.length cY, .int .i64 Y.h, .int .i64 Y.p, .int .i64 Y.q] 29)).heap.size ≤ w5.heap.size := hb5.size
  have fL := fL.below hb5
  have fR := fR.below hb5
  have hN := hN.below hb5
  have hP := hP.below hb5
  have QR := QR.below hb5
  have gG := gG.below hb5
  have rY := rY.below hb5
  have QY := QY.below hb5
  have hB5 := hB4.trans (hb5.mono hB4.size)
  rw [hdd.out]
  obtain ⟨O, hO⟩ : ∃ O, pt l (fnd d l) = O := ⟨_, rfl⟩
  have hGe := get_spec _ _ _ aL nL cL l fL (by omega) d (by omega)
  have zO : O.zs.length ≤ 1048576 := by rw [← hO]; exact (fL.room_at (by omega)).2 _
  rw [hO] at hGe
  have HO := Lib.hid hO
  clear hO
  by_cases hfd : fnd d l < l.length
  · obtain ⟨g1, g2, g3⟩ := hY.out hfd
    rw [HYe.out, HO.out] at g1
    rw [HO.out] at g3
    have wO := wFl _ (pt_mem hfd)
    rw [HO.out] at wO
    have hgi := Lib.hid g1
    have HrC := Lib.hid g2
    have hg3 := Lib.hid g3
    clear g1 g2 g3
    rw [show decide (fnd d l < l.length) = true by simp; omega] at hGe
    go_wp2_with fail
    go_at_call 11
    refine (hGe).mono ?_
    rintro e w6 ⟨aO, cO, rfl, oO, hOc, hOm, hb6⟩
    have hs6 : w5.heap.size ≤ w6.heap.size := hb6.size
    have fL := fL.below hb6
    have fR := fR.below hb6
    have hN := hN.below hb6
    have hP := hP.below hb6
    have QR := QR.below hb6
    have gG := gG.below hb6
    have rY := rY.below hb6
    have QY := QY.below hb6
    have hB6 := hB5.trans (hb6.mono hB5.size)
    have rO := oO.row; clear oO hGe
    have hA6 : Below w6.heap.size w6 (w6.alloc (.cells #[.int .i64 O.k, .slice aO O.zs.length cO, .int .i64 O.h, .int .i64 O.p, .int .i64 O.q] 29)) := (Below.refl _ _).alloc (Nat.le_refl _) _
    have fL := fL.below hA6
    have fR := fR.below hA6
    have hN := hN.below hA6
    have hP := hP.below hA6
    have QR := QR.below hA6
    have gG := gG.below hA6
    have rY := rY.below hA6
    have QY := QY.below hA6
    have rO := rO.below hA6
    have QO := Quint.new 29 (.int .i64 O.k) (.slice aO O.zs.length cO) (.int .i64 O.h) (.int .i64 O.p) (.int .i64 O.q) w6
    have hBy := hB6.trans (hA6.mono hB6.size)
    clear hB6; have hB6 := hBy; clear hBy
    have hz6A : (w6.alloc (.cells #[.int .i64 O.k, .slice aO O.zs.length cO, .int .i64 O.h, .int .i64 O.p, .int .i64 O.q] 29)).heap.size = w6.heap.size + 1 := size_alloc _ _
    have hSR := same_spec _ _ _ _ O.k O.h O.p O.q k h p q _ aO aR O.zs.length cO zs.length cR O.zs zs rO fR zO (by omega)
    by_cases heq : O.k = k ∧ (O.h = h ∧ O.p = p ∧ O.q = q) ∧ O.zs = zs
    rotate_left
    · rw [show decide (O.k = k ∧ (O.h = h ∧ O.p = p ∧ O.q = q) ∧ O.zs = zs) = false by simpa using heq] at hSR
      clear heq
      obtain ⟨qo_7_0, qo_7_1, qo_7_2, qo_7_3, qo_7_4⟩ := QO.cells
      obtain ⟨qr_7_0, qr_7_1, qr_7_2, qr_7_3, qr_7_4⟩ := QR.cells
      go_wp2_with fail
      go_at_call 13
      refine (hSR).mono ?_
      rintro e w7 ⟨rfl, hb7⟩
      clear qo_7_0 qo_7_1 qo_7_2 qo_7_3 qo_7_4 qr_7_0 qr_7_1 qr_7_2 qr_7_3 qr_7_4
      have hs7 : (w6.alloc (.cells #[.int .i64 O.k, .slice aO O.zs.length cO, .int .i64 O.h, .int .i64 O.p, .int .i64 O.q] 29)).heap.size ≤ w7.heap.size := hb7.size
      have fL := fL.below hb7
      have fR := fR.below hb7
      have hN := hN.below hb7
      have hP := hP.below hb7
      have QR := QR.below hb7
      have gG := gG.below hb7
      have rY := rY.below hb7
      have QY := QY.below hb7
      have rO := rO.below hb7
      have QO := QO.below hb7
      have hB7 := hB6.trans (hb7.mono hB6.size)
      clear hSR
      go_wp2_with fail
      go_at_call 14
      refine (store_impl _ _ _ aG R.length cG R a0 gG (by omega) (by omega) hN).mono ?_
      rintro e w8 ⟨rfl, hb8⟩
      have hs8 : w7.heap.size ≤ w8.heap.size := hb8.size
      have fL := fL.below hb8
      have fR := fR.below hb8
      have hN := hN.below hb8
      have hP := hP.below hb8
      have QR := QR.below hb8
      have gG := gG.below hb8
      have rY := rY.below hb8
      have QY := QY.below hb8
      have rO := rO.below hb8
      have QO := QO.below hb8
      have hB8 := hB7.trans (hb8.mono hB7.size)
      rw [Hs2.out]
      obtain ⟨qy_9_0, qy_9_1, qy_9_2, qy_9_3, qy_9_4⟩ := QY.cells
      obtain ⟨qo_9_0, qo_9_1, qo_9_2, qo_9_3, qo_9_4⟩ := QO.cells
      go_wp2_with fail
      go_at_call 15
      refine (alike_impl _ _ _ _ Y.k Y.h Y.p Y.q O.k O.h O.p O.q _ aY aO Y.zs.length cY O.zs.length cO Y.zs O.zs rY rO (by omega) zO wY.2.1 wY.2.2.1 wY.2.2.2.1 wY.2.2.2.2.1 wO.2.1 wO.2.2.1 wO.2.2.2.1 wO.2.2.2.2.1).mono ?_
      rintro e w9 ⟨rfl, hb9⟩
      clear qy_9_0 qy_9_1 qy_9_2 qy_9_3 qy_9_4 qo_9_0 qo_9_1 qo_9_2 qo_9_3 qo_9_4
      have hs9 : w8.heap.size ≤ w9.heap.size := hb9.size
      have fL := fL.below hb9
      have fR := fR.below hb9
      have hN := hN.below hb9
      have hP := hP.below hb9
      have QR := QR.below hb9
      have gG := gG.below hb9
      have rY := rY.below hb9
      have QY := QY.below hb9
      have rO := rO.below hb9
      have QO := QO.below hb9
      have hB9 := hB8.trans (hb9.mono hB8.size)
      rw [show decide (Y.k = O.k ∧ (Y.h = O.h ∧ Y.p = O.p ∧ Y.q = O.q) ∧ Y.zs = O.zs) = true by rw [hgi.out]; simp [inc]]
      go_wp2
      go_ret
      exact ⟨rfl, hB9⟩
    rw [show decide (O.k = k ∧ (O.h = h ∧ O.p = p ∧ O.q = q) ∧ O.zs = zs) = true from decide_eq_true heq] at hSR
    have HYX := Lib.hid (show decide (Y.k = k ∧ (Y.h = h ∧ Y.p = p ∧ Y.q = q) ∧ Y.zs = zs) = true by rw [hgi.out]; exact decide_eq_true heq)
    have HrU := Lib.hid (show each R = each l + ((zs.length : Int) + 1) by rw [hg3.out, heq.2.2])
    clear heq
    obtain ⟨qo_7_0, qo_7_1, qo_7_2, qo_7_3, qo_7_4⟩ := QO.cells
    obtain ⟨qr_7_0, qr_7_1, qr_7_2, qr_7_3, qr_7_4⟩ := QR.cells
    go_wp2_with fail
    go_at_call 13
    refine (hSR).mono ?_
    rintro e w7 ⟨rfl, hb7⟩
    clear qo_7_0 qo_7_1 qo_7_2 qo_7_3 qo_7_4 qr_7_0 qr_7_1 qr_7_2 qr_7_3 qr_7_4
    have hs7 : (w6.alloc (.cells #[.int .i64 O.k, .slice aO O.zs.length cO, .int .i64 O.h, .int .i64 O.p, .int .i64 O.q] 29)).heap.size ≤ w7.heap.size := hb7.size
    have fL := fL.below hb7
    have fR := fR.below hb7
    have hN := hN.below hb7
    have hP := hP.below hb7
    have QR := QR.below hb7
    have gG := gG.below hb7
    have rY := rY.below hb7
    have QY := QY.below hb7
    have rO := rO.below hb7
    have QO := QO.below hb7
    have hB7 := hB6.trans (hb7.mono hB6.size)
    clear hSR
    go_wp2_with fail
    go_at_call 14
    refine (store_impl _ _ _ aG R.length cG R a0 gG (by omega) (by omega) hN).mono ?_
    rintro e w8 ⟨rfl, hb8⟩
    have hs8 : w7.heap.size ≤ w8.heap.size := hb8.size
    have fL := fL.below hb8
    have fR := fR.below hb8
    have hN := hN.below hb8
    have hP := hP.below hb8
    have QR := QR.below hb8
    have gG := gG.below hb8
    have rY := rY.below hb8
    have QY := QY.below hb8
    have rO := rO.below hb8
    have QO := QO.below hb8
    have hB8 := hB7.trans (hb8.mono hB7.size)
    rw [Hs2.out]
    obtain ⟨qy_9_0, qy_9_1, qy_9_2, qy_9_3, qy_9_4⟩ := QY.cells
    obtain ⟨qr_9_0, qr_9_1, qr_9_2, qr_9_3, qr_9_4⟩ := QR.cells
    go_wp2_with fail
    go_at_call 15
    refine (alike_impl _ _ _ _ Y.k Y.h Y.p Y.q k h p q _ aY aR Y.zs.length cY zs.length cR Y.zs zs rY fR (by omega) (by omega) wY.2.1 wY.2.2.1 wY.2.2.2.1 wY.2.2.2.2.1 wk wh wp wq).mono ?_
    rintro e w9 ⟨rfl, hb9⟩
    clear qy_9_0 qy_9_1 qy_9_2 qy_9_3 qy_9_4 qr_9_0 qr_9_1 qr_9_2 qr_9_3 qr_9_4
    have hs9 : w8.heap.size ≤ w9.heap.size := hb9.size
    have fL := fL.below hb9
    have fR := fR.below hb9
    have hN := hN.below hb9
    have hP := hP.below hb9
    have QR := QR.below hb9
    have gG := gG.below hb9
    have rY := rY.below hb9
    have QY := QY.below hb9
    have rO := rO.below hb9
    have QO := QO.below hb9
    have hB9 := hB8.trans (hb9.mono hB8.size)
    rw [HYX.out]
    go_wp2_with fail
    go_at_call 16
    refine (take_impl _ _ _ aG R.length cG R d a0 a1 gG (by omega) (by omega) wd hN hP).mono ?_
    rintro e w10 ⟨vZ, GZ, rfl, hvZ, hb10⟩
    have hs10 : w9.heap.size ≤ w10.heap.size := hb10.size
    have fL := fL.below hb10
    have fR := fR.below hb10
    have hN := hN.below hb10
    have hP := hP.below hb10
    have QR := QR.below hb10
    have gG := gG.below hb10
    have rY := rY.below hb10
    have QY := QY.below hb10
    have rO := rO.below hb10
    have QO := QO.below hb10
    have hB10 := hB9.trans (hb10.mono hB9.size)
    rw [HtB.out]
    rw [HtL.out] at hvZ
    obtain ⟨aZ, cZ, rfl, _, _, hZo⟩ := hvZ.shape
    have gZ := hZo.row; clear hZo hvZ
    go_wp2_with fail
    go_at_call 8
    refine (stores_impl _ _ _ _ _ aZ aL l.length nL cZ cL _ _ gZ fL (by omega) (by omega) (by omega) (by omega)).mono ?_
    rintro e w11 ⟨rfl, hb11⟩
    have hs11 : w10.heap.size ≤ w11.heap.size := hb11.size
    have fL := fL.below hb11
    have fR := fR.below hb11
    have hN := hN.below hb11
    have hP := hP.below hb11
    have QR := QR.below hb11
    have gG := gG.below hb11
    have rY := rY.below hb11
    have QY := QY.below hb11
    have rO := rO.below hb11
    have QO := QO.below hb11
    have gZ := gZ.below hb11
    have hB11 := hB10.trans (hb11.mono hB10.size)
    rw [sameL_self]
    clear gZ
    have hGi := get_impl _ _ _ aL nL cL l fL (by omega) d (by omega)
    rw [HO.out, show decide (fnd d l < l.length) = true by simp; omega] at hGi
    go_wp2_with fail
    go_at_call 10
    refine (hGi).mono ?_
    rintro e w12 ⟨aU, cU, rfl, oU, hUc, hUm, hb12⟩
    have hs12 : w11.heap.size ≤ w12.heap.size := hb12.size
    have fL := fL.below hb12
    have fR := fR.below hb12
    have hN := hN.below hb12
    have hP := hP.below hb12
    have QR := QR.below hb12
    have gG := gG.below hb12
    have rY := rY.below hb12
    have QY := QY.below hb12
    have rO := rO.below hb12
    have QO := QO.below hb12
    have hB12 := hB11.trans (hb12.mono hB11.size)
    clear oU hGi
    have hA12 : Below w12.heap.size w12 (w12.alloc (.cells #[.int .i64 O.k, .slice aU O.zs.length cU, .int .i64 O.h, .int .i64 O.p, .int .i64 O.q] 29)) := (Below.refl _ _).alloc (Nat.le_refl _) _
    have fL := fL.below hA12
    have fR := fR.below hA12
    have hN := hN.below hA12
    have hP := hP.below hA12
    have QR := QR.below hA12
    have gG := gG.below hA12
    have rY := rY.below hA12
    have QY := QY.below hA12
    have rO := rO.below hA12
    have QO := QO.below hA12
    have QU := Quint.new 29 (.int .i64 O.k) (.slice aU O.zs.length cU) (.int .i64 O.h) (.int .i64 O.p) (.int .i64 O.q) w12
    have hBy := hB12.trans (hA12.mono hB12.size)
    clear hB12; have hB12 := hBy; clear hBy
    have hz12A : (w12.alloc (.cells #[.int .i64 O.k, .slice aU O.zs.length cU, .int .i64 O.h, .int .i64 O.p, .int .i64 O.q] 29)).heap.size = w12.heap.size + 1 := size_alloc _ _
    clear QU
    obtain ⟨A, hA⟩ : ∃ A : Int, (room l : Int) = A := ⟨_, rfl⟩
    obtain ⟨E, hE⟩ : ∃ E : Int, each l = E := ⟨_, rfl⟩
    obtain ⟨C, hC⟩ : ∃ C : Int, (room R : Int) = C := ⟨_, rfl⟩
    obtain ⟨U, hU⟩ : ∃ U : Int, each R = U := ⟨_, rfl⟩
    have er := each_range l
    have hS1 := stored_impl _ _ _ aL nL cL l fL (by omega) (by omega)
    rw [hA, hE] at hS1
    go_wp2_with fail
    go_at_call 17
    refine (hS1).mono ?_
    rintro e w13 ⟨rfl, hb13⟩
    have hs13 : (w12.alloc (.cells #[.int .i64 O.k, .slice aU O.zs.length cU, .int .i64 O.h, .int .i64 O.p, .int .i64 O.q] 29)).heap.size ≤ w13.heap.size := hb13.size
    have fL := fL.below hb13
    have fR := fR.below hb13
    have hN := hN.below hb13
    have hP := hP.below hb13
    have QR := QR.below hb13
    have gG := gG.below hb13
    have rY := rY.below hb13
    have QY := QY.below hb13
    have rO := rO.below hb13
    have QO := QO.below hb13
    have hB13 := hB12.trans (hb13.mono hB12.size)
    have hS2 := stored_impl _ _ _ aG R.length cG R gG (by omega) (by omega)
    rw [hC, hU] at hS2
    go_wp2_with fail
    go_at_call 17
    refine (hS2).mono ?_
    rintro e w14 ⟨rfl, hb14⟩
    have hs14 : w13.heap.size ≤ w14.heap.size := hb14.size
    have fL := fL.below hb14
    have fR := fR.below hb14
    have hN := hN.below hb14
    have hP := hP.below hb14
    have QR := QR.below hb14
    have gG := gG.below hb14
    have rY := rY.below hb14
    have QY := QY.below hb14
    have rO := rO.below hb14
    have QO := QO.below hb14
    have hB14 := hB13.trans (hb14.mono hB13.size)
    have t1 : decide (A > E) = false := by simp; omega
    have t1b : decide (E < A) = false := by simp; omega
    have t2 : (C != A) = false := by simp [bne]; have := HrC.out; omega
    have w3 : IntKind.wrap .i64 (E + ((zs.length : Int) + 1)) = E + ((zs.length : Int) + 1) := by rw [IntKind.wrap_i64]; omega
    have t3 : (U != E + ((zs.length : Int) + 1)) = false := by simp [bne]; have := HrU.out; omega
    clear hA hE hC hU er hS1 hS2
    obtain ⟨qr_15_0, qr_15_1, qr_15_2, qr_15_3, qr_15_4⟩ := QR.cells
    go_wp2_with fail
    go_at_call 18
    refine (size_impl k h p q _ aR zs.length cR (by omega)).mono ?_
    rintro e w15 ⟨rfl, hb15⟩
    clear qr_15_0 qr_15_1 qr_15_2 qr_15_3 qr_15_4
    have hs15 : w14.heap.size ≤ w15.heap.size := hb15.size
    have fL := fL.below hb15
    have fR := fR.below hb15
    have hN := hN.below hb15
    have hP := hP.below hb15
    have QR := QR.below hb15
    have gG := gG.below hb15
    have rY := rY.below hb15
    have QY := QY.below hb15
    have rO := rO.below hb15
    have QO := QO.below hb15
    have hB15 := hB14.trans (hb15.mono hB14.size)
    go_wp2_with fail
    go_at_call 19
    refine (Draw.draw_two w.heap.size a n c _ (bytes_under hbw hB15 (Nat.le_refl _)) hB15.size).mono ?_
    rintro e w16 ⟨aS, nS, cS, lS, aT, nT, cT, lT, rfl, fS, rS, fT, rT, hb16⟩
    have hs16 : w15.heap.size ≤ w16.heap.size := hb16.size
    have hB16 := hB15.trans (hb16.mono hB15.size)
    obtain ⟨M, hM⟩ : ∃ M, sameL lS lT = M := ⟨_, rfl⟩
    have HM := Lib.hid hM
    clear hM
    go_wp2_with fail
    go_at_call 8
    refine (stores_impl _ _ _ _ _ aS aT nS nT cS cT _ _ fS fT (by omega) (by omega) (by omega) (by omega)).mono ?_
    rintro e w17 ⟨rfl, hb17⟩
    have hs17 : w16.heap.size ≤ w17.heap.size := hb17.size
    have fS := fS.below hb17
    have fT := fT.below hb17
    have hB17 := hB16.trans (hb17.mono hB16.size)
    rw [HM.out]
    go_wp2_with fail
    go_at_call 8
    refine (stores_impl _ _ _ _ _ aT aS nT nS cT cS _ _ fT fS (by omega) (by omega) (by omega) (by omega)).mono ?_
    rintro e w18 ⟨rfl, hb18⟩
    have hs18 : w17.heap.size ≤ w18.heap.size := hb18.size
    have fS := fS.below hb18
    have fT := fT.below hb18
    have hB18 := hB17.trans (hb18.mono hB17.size)
    rw [sameL_comm, HM.out]
    have hMM : (M == M) = true := by simp
    go_wp2_with fail
    go_at_call 8
    refine (stores_impl _ _ _ _ _ aS aS nS nS cS cS _ _ fS fS (by omega) (by omega) (by omega) (by omega)).mono ?_
    rintro e w19 ⟨rfl, hb19⟩
    have hs19 : w18.heap.size ≤ w19.heap.size := hb19.size
    have fS := fS.below hb19
    have fT := fT.below hb19
    have hB19 := hB18.trans (hb19.mono hB18.size)
    rw [sameL_self]
    go_wp2
    go_ret
    exact ⟨rfl, hB19⟩
  · obtain ⟨g1, g2, g3⟩ := hNN.out hfd
    rw [HYe.out] at g1
    rw [hzX.out] at g2 g3
    have HYX := Lib.hid (show decide (Y.k = k ∧ (Y.h = h ∧ Y.p = p ∧ Y.q = q) ∧ Y.zs = zs) = true by rw [g1, hXe.out]; simp)
    have HrC := Lib.hid g2
    have HrU := Lib.hid g3
    clear g1 g2 g3
    rw [show decide (fnd d l < l.length) = false by simp; omega] at hGe
    go_wp2_with fail
    go_at_call 11
    refine (hGe).mono ?_
    rintro e w6 ⟨aO, cO, rfl, oO, hOc, hOm, hb6⟩
    have hs6 : w5.heap.size ≤ w6.heap.size := hb6.size
    have fL := fL.below hb6
    have fR := fR.below hb6
    have hN := hN.below hb6
    have hP := hP.below hb6
    have QR := QR.below hb6
    have gG := gG.below hb6
    have rY := rY.below hb6
    have QY := QY.below hb6
    have hB6 := hB5.trans (hb6.mono hB5.size)
    have rO := oO.row; clear oO hGe
    have hA6 : Below w6.heap.size w6 (w6.alloc (.cells #[.int .i64 O.k, .slice aO O.zs.length cO, .int .i64 O.h, .int .i64 O.p, .int .i64 O.q] 29)) := (Below.refl _ _).alloc (Nat.le_refl _) _
    have fL := fL.below hA6
    have fR := fR.below hA6
    have hN := hN.below hA6
    have hP := hP.below hA6
    have QR := QR.below hA6
    have gG := gG.below hA6
    have rY := rY.below hA6
    have QY := QY.below hA6
    have rO := rO.below hA6
    have QO := Quint.new 29 (.int .i64 O.k) (.slice aO O.zs.length cO) (.int .i64 O.h) (.int .i64 O.p) (.int .i64 O.q) w6
    have hBy := hB6.trans (hA6.mono hB6.size)
    clear hB6; have hB6 := hBy; clear hBy
    have hz6A : (w6.alloc (.cells #[.int .i64 O.k, .slice aO O.zs.length cO, .int .i64 O.h, .int .i64 O.p, .int .i64 O.q] 29)).heap.size = w6.heap.size + 1 := size_alloc _ _
    go_wp2_with fail
    go_at_call 14
    refine (store_impl _ _ _ aG R.length cG R a0 gG (by omega) (by omega) hN).mono ?_
    rintro e w7 ⟨rfl, hb7⟩
    have hs7 : (w6.alloc (.cells #[.int .i64 O.k, .slice aO O.zs.length cO, .int .i64 O.h, .int .i64 O.p, .int .i64 O.q] 29)).heap.size ≤ w7.heap.size := hb7.size
    have fL := fL.below hb7
    have fR := fR.below hb7
    have hN := hN.below hb7
    have hP := hP.below hb7
    have QR := QR.below hb7
    have gG := gG.below hb7
    have rY := rY.below hb7
    have QY := QY.below hb7
    have rO := rO.below hb7
    have QO := QO.below hb7
    have hB7 := hB6.trans (hb7.mono hB6.size)
    rw [Hs2.out]
    obtain ⟨qy_8_0, qy_8_1, qy_8_2, qy_8_3, qy_8_4⟩ := QY.cells
    obtain ⟨qr_8_0, qr_8_1, qr_8_2, qr_8_3, qr_8_4⟩ := QR.cells
    go_wp2_with fail
    go_at_call 15
    refine (alike_impl _ _ _ _ Y.k Y.h Y.p Y.q k h p q _ aY aR Y.zs.length cY zs.length cR Y.zs zs rY fR (by omega) (by omega) wY.2.1 wY.2.2.1 wY.2.2.2.1 wY.2.2.2.2.1 wk wh wp wq).mono ?_
    rintro e w8 ⟨rfl, hb8⟩
    clear qy_8_0 qy_8_1 qy_8_2 qy_8_3 qy_8_4 qr_8_0 qr_8_1 qr_8_2 qr_8_3 qr_8_4
    have hs8 : w7.heap.size ≤ w8.heap.size := hb8.size
    have fL := fL.below hb8
    have fR := fR.below hb8
    have hN := hN.below hb8
    have hP := hP.below hb8
    have QR := QR.below hb8
    have gG := gG.below hb8
    have rY := rY.below hb8
    have QY := QY.below hb8
    have rO := rO.below hb8
    have QO := QO.below hb8
    have hB8 := hB7.trans (hb8.mono hB7.size)
    rw [HYX.out]
    go_wp2_with fail
    go_at_call 16
    refine (take_impl _ _ _ aG R.length cG R d a0 a1 gG (by omega) (by omega) wd hN hP).mono ?_
    rintro e w9 ⟨vZ, GZ, rfl, hvZ, hb9⟩
    have hs9 : w8.heap.size ≤ w9.heap.size := hb9.size
    have fL := fL.below hb9
    have fR := fR.below hb9
    have hN := hN.below hb9
    have hP := hP.below hb9
    have QR := QR.below hb9
    have gG := gG.below hb9
    have rY := rY.below hb9
    have QY := QY.below hb9
    have rO := rO.below hb9
    have QO := QO.below hb9
    have hB9 := hB8.trans (hb9.mono hB8.size)
    rw [HtB.out]
    rw [HtL.out] at hvZ
    obtain ⟨aZ, cZ, rfl, _, _, hZo⟩ := hvZ.shape
    have gZ := hZo.row; clear hZo hvZ
    go_wp2_with fail
    go_at_call 8
    refine (stores_impl _ _ _ _ _ aZ aL l.length nL cZ cL _ _ gZ fL (by omega) (by omega) (by omega) (by omega)).mono ?_
    rintro e w10 ⟨rfl, hb10⟩
    have hs10 : w9.heap.size ≤ w10.heap.size := hb10.size
    have fL := fL.below hb10
    have fR := fR.below hb10
    have hN := hN.below hb10
    have hP := hP.below hb10
    have QR := QR.below hb10
    have gG := gG.below hb10
    have rY := rY.below hb10
    have QY := QY.below hb10
    have rO := rO.below hb10
    have QO := QO.below hb10
    have gZ := gZ.below hb10
    have hB10 := hB9.trans (hb10.mono hB9.size)
    rw [sameL_self]
    clear gZ
    have hGi := get_impl _ _ _ aL nL cL l fL (by omega) d (by omega)
    rw [HO.out, show decide (fnd d l < l.length) = false by simp; omega] at hGi
    go_wp2_with fail
    go_at_call 10
    refine (hGi).mono ?_
    rintro e w11 ⟨aU, cU, rfl, oU, hUc, hUm, hb11⟩
    have hs11 : w10.heap.size ≤ w11.heap.size := hb11.size
    have fL := fL.below hb11
    have fR := fR.below hb11
    have hN := hN.below hb11
    have hP := hP.below hb11
    have QR := QR.below hb11
    have gG := gG.below hb11
    have rY := rY.below hb11
    have QY := QY.below hb11
    have rO := rO.below hb11
    have QO := QO.below hb11
    have hB11 := hB10.trans (hb11.mono hB10.size)
    clear oU hGi
    have hA11 : Below w11.heap.size w11 (w11.alloc (.cells #[.int .i64 O.k, .slice aU O.zs.length cU, .int .i64 O.h, .int .i64 O.p, .int .i64 O.q] 29)) := (Below.refl _ _).alloc (Nat.le_refl _) _
    have fL := fL.below hA11
    have fR := fR.below hA11
    have hN := hN.below hA11
    have hP := hP.below hA11
    have QR := QR.below hA11
    have gG := gG.below hA11
    have rY := rY.below hA11
    have QY := QY.below hA11
    have rO := rO.below hA11
    have QO := QO.below hA11
    have QU := Quint.new 29 (.int .i64 O.k) (.slice aU O.zs.length cU) (.int .i64 O.h) (.int .i64 O.p) (.int .i64 O.q) w11
    have hBy := hB11.trans (hA11.mono hB11.size)
    clear hB11; have hB11 := hBy; clear hBy
    have hz11A : (w11.alloc (.cells #[.int .i64 O.k, .slice aU O.zs.length cU, .int .i64 O.h, .int .i64 O.p, .int .i64 O.q] 29)).heap.size = w11.heap.size + 1 := size_alloc _ _
    clear QU
    obtain ⟨A, hA⟩ : ∃ A : Int, (room l : Int) = A := ⟨_, rfl⟩
    obtain ⟨E, hE⟩ : ∃ E : Int, each l = E := ⟨_, rfl⟩
    obtain ⟨C, hC⟩ : ∃ C : Int, (room R : Int) = C := ⟨_, rfl⟩
    obtain ⟨U, hU⟩ : ∃ U : Int, each R = U := ⟨_, rfl⟩
    have er := each_range l
    have hS1 := stored_impl _ _ _ aL nL cL l fL (by omega) (by omega)
    rw [hA, hE] at hS1
    go_wp2_with fail
    go_at_call 17
    refine (hS1).mono ?_
    rintro e w12 ⟨rfl, hb12⟩
    have hs12 : (w11.alloc (.cells #[.int .i64 O.k, .slice aU O.zs.length cU, .int .i64 O.h, .int .i64 O.p, .int .i64 O.q] 29)).heap.size ≤ w12.heap.size := hb12.size
    have fL := fL.below hb12
    have fR := fR.below hb12
    have hN := hN.below hb12
    have hP := hP.below hb12
    have QR := QR.below hb12
    have gG := gG.below hb12
    have rY := rY.below hb12
    have QY := QY.below hb12
    have rO := rO.below hb12
    have QO := QO.below hb12
    have hB12 := hB11.trans (hb12.mono hB11.size)
    have hS2 := stored_impl _ _ _ aG R.length cG R gG (by omega) (by omega)
    rw [hC, hU] at hS2
    go_wp2_with fail
    go_at_call 17
    refine (hS2).mono ?_
    rintro e w13 ⟨rfl, hb13⟩
    have hs13 : w12.heap.size ≤ w13.heap.size := hb13.size
    have fL := fL.below hb13
    have fR := fR.below hb13
    have hN := hN.below hb13
    have hP := hP.below hb13
    have QR := QR.below hb13
    have gG := gG.below hb13
    have rY := rY.below hb13
    have QY := QY.below hb13
    have rO := rO.below hb13
    have QO := QO.below hb13
    have hB13 := hB12.trans (hb13.mono hB12.size)
    have t1 : decide (A > E) = false := by simp; omega
    have t1b : decide (E < A) = false := by simp; omega
    have w2 : IntKind.wrap .i64 (A + ((zs.length : Int) + 1)) = A + ((zs.length : Int) + 1) := by rw [IntKind.wrap_i64]; omega
    have t2 : (C != A + ((zs.length : Int) + 1)) = false := by simp [bne]; have := HrC.out; omega
    have w3 : IntKind.wrap .i64 (E + ((zs.length : Int) + 1)) = E + ((zs.length : Int) + 1) := by rw [IntKind.wrap_i64]; omega
    have t3 : (U != E + ((zs.length : Int) + 1)) = false := by simp [bne]; have := HrU.out; omega
    clear hA hE hC hU er hS1 hS2
    obtain ⟨qr_14_0, qr_14_1, qr_14_2, qr_14_3, qr_14_4⟩ := QR.cells
    go_wp2_with fail
    go_at_call 18
    refine (size_impl k h p q _ aR zs.length cR (by omega)).mono ?_
    rintro e w14 ⟨rfl, hb14⟩
    clear qr_14_0 qr_14_1 qr_14_2 qr_14_3 qr_14_4
    have hs14 : w13.heap.size ≤ w14.heap.size := hb14.size
    have fL := fL.below hb14
    have fR := fR.below hb14
    have hN := hN.below hb14
    have hP := hP.below hb14
    have QR := QR.below hb14
    have gG := gG.below hb14
    have rY := rY.below hb14
    have QY := QY.below hb14
    have rO := rO.below hb14
    have QO := QO.below hb14
    have hB14 := hB13.trans (hb14.mono hB13.size)
    obtain ⟨qr_15_0, qr_15_1, qr_15_2, qr_15_3, qr_15_4⟩ := QR.cells
    go_wp2_with fail
    go_at_call 18
    refine (size_impl k h p q _ aR zs.length cR (by omega)).mono ?_
    rintro e w15 ⟨rfl, hb15⟩
    clear qr_15_0 qr_15_1 qr_15_2 qr_15_3 qr_15_4
    have hs15 : w14.heap.size ≤ w15.heap.size := hb15.size
    have fL := fL.below hb15
    have fR := fR.below hb15
    have hN := hN.below hb15
    have hP := hP.below hb15
    have QR := QR.below hb15
    have gG := gG.below hb15
    have rY := rY.below hb15
    have QY := QY.below hb15
    have rO := rO.below hb15
    have QO := QO.below hb15
    have hB15 := hB14.trans (hb15.mono hB14.size)
    go_wp2_with fail
    go_at_call 19
    refine (Draw.draw_two w.heap.size a n c _ (bytes_under hbw hB15 (Nat.le_refl _)) hB15.size).mono ?_
    rintro e w16 ⟨aS, nS, cS, lS, aT, nT, cT, lT, rfl, fS, rS, fT, rT, hb16⟩
    have hs16 : w15.heap.size ≤ w16.heap.size := hb16.size
    have hB16 := hB15.trans (hb16.mono hB15.size)
    obtain ⟨M, hM⟩ : ∃ M, sameL lS lT = M := ⟨_, rfl⟩
    have HM := Lib.hid hM
    clear hM
    go_wp2_with fail
    go_at_call 8
    refine (stores_impl _ _ _ _ _ aS aT nS nT cS cT _ _ fS fT (by omega) (by omega) (by omega) (by omega)).mono ?_
    rintro e w17 ⟨rfl, hb17⟩
    have hs17 : w16.heap.size ≤ w17.heap.size := hb17.size
    have fS := fS.below hb17
    have fT := fT.below hb17
    have hB17 := hB16.trans (hb17.mono hB16.size)
    rw [HM.out]
    go_wp2_with fail
    go_at_call 8
    refine (stores_impl _ _ _ _ _ aT aS nT nS cT cS _ _ fT fS (by omega) (by omega) (by omega) (by omega)).mono ?_
    rintro e w18 ⟨rfl, hb18⟩
    have hs18 : w17.heap.size ≤ w18.heap.size := hb18.size
    have fS := fS.below hb18
    have fT := fT.below hb18
    have hB18 := hB17.trans (hb18.mono hB17.size)
    rw [sameL_comm, HM.out]
    have hMM : (M == M) = true := by simp
    go_wp2_with fail
    go_at_call 8
    refine (stores_impl _ _ _ _ _ aS aS nS nS cS cS _ _ fS fS (by omega) (by omega) (by omega) (by omega)).mono ?_
    rintro e w19 ⟨rfl, hb19⟩
    have hs19 : w18.heap.size ≤ w19.heap.size := hb19.size
    have fS := fS.below hb19
    have fT := fT.below hb19
    have hB19 := hB18.trans (hb19.mono hB18.size)
    rw [sameL_self]
    go_wp2
    go_ret
    exact ⟨rfl, hB19⟩

set_option maxRecDepth 100000 in
theorem law_walk (a : Option Addr) (n c : Nat) (w : World) (h : Draw.Bytes w.heap.size w a n) (a0 a1 : Addr) (hN : NoStore a0 w) (hP : NoPart a1 w) :
    Calls Tryz.prog 3 #[.slice a n c] w fun e w' => e = .returned (.bool true) ∧ Below w.heap.size w w' := by
  by_cases k : n ≤ 1048576
  · exact walk_small a n c w h k a0 a1 hN hP
  · have k' : (1048576 : Int) < n := by omega
    clear hN hP
    go_enter Tryz.func3, Tryz.ntmps3
    go_wp2
    go_ret
    exact ⟨rfl, Below.refl _ _⟩
end Go.Proofs.YtedjclnojocjkaaGreatDoor.FnPartsW
