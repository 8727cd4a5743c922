/-
  Sites that change: the model. Whether an address answers the same from one tick to another.
  Conditions: the versions lie in memory, with 2^20 numbers at most.
-/
import Derived.Test.YtldpgkbemgpacaaSiteS
import Derived.Test.YtldpgkbemgpacaaResInts
import Derived.Deep.RegionHeld3
namespace Go.Proofs.Ytldpgkbemgpacaa.Sites
open Go Go.RowKit Go.Proofs.Ytldpgkbemgpacaa.Mem Go.Proofs.Ytldpgkbemgpacaa.Gen Go.Proofs.Ytldpgkbemgpacaa.Adr Go.Proofs.Ytldpgkbemgpacaa.Res Go.Proofs.Ytldpgkbemgpacaa.Range

set_option maxHeartbeats 4000000 in
set_option maxRecDepth 100000 in
theorem steady_spec (lo hi : Nat) (w : World) (L : Option Addr) (c : Nat) (l : List TVersion) (h : Lies lo hi w (dVersion l) (.slice L l.length c)) (hh : hi ≤ w.heap.size) (hm : room (dVersion l) ≤ 1048576) (A : TAddress) (u v : Int) :
    Calls Try.prog 36 #[.slice L l.length c, .agg #[.int .i64 A.f0, .int .i64 A.f1, .int .i64 A.f2], .int .i64 u, .int .i64 v] w fun e w' => e = .returned (.bool (steadyB l A u v)) ∧ Below w.heap.size w w' := by
  have hB0 : Below w.heap.size w (w.alloc (.cells #[.int .i64 A.f0, .int .i64 A.f1, .int .i64 A.f2] 26)) := (Below.refl _ _).alloc (Nat.le_refl _) _
  have q0 := Blk.new 26 [.int .i64 A.f0, .int .i64 A.f1, .int .i64 A.f2] w
  by_cases t1 : 0 ≤ u ∧ u ≤ 1000
  rotate_left
  · rw [show steadyB l A u v = false by unfold steadyB; rw [decide_eq_false t1]; rfl]
    go_enter Try.func36, Try.ntmps36
    go_wp2_with fail
    go_at_call 52
    refine (l1_no u 0 1000 _ (by omega)).mono ?_
    rintro e w1 ⟨rfl, rfl⟩
    go_wp2
    go_ret
    exact ⟨rfl, hB0⟩
  by_cases t2 : u ≤ v ∧ v ≤ 1000
  rotate_left
  · rw [show steadyB l A u v = false by unfold steadyB; rw [decide_eq_false t2]; simp]
    go_enter Try.func36, Try.ntmps36
    go_wp2_with fail
    go_at_call 52
    refine (l1_yes u 0 1000 _ (by omega) (by omega)).mono ?_
    rintro e w1 ⟨rfl, rfl⟩
    go_wp2_with fail
    go_at_call 52
    refine (l1_no v u 1000 _ (by omega)).mono ?_
    rintro e w1 ⟨rfl, rfl⟩
    go_wp2
    go_ret
    exact ⟨rfl, hB0⟩
  have hst : steadyB l A u v = steadyTo l A u (v - u + 1).toNat := by unfold steadyB; rw [decide_eq_true t1, decide_eq_true t2]; rfl
  rw [hst]
  obtain ⟨R, hR⟩ : ∃ R, steadyTo l A u (v - u + 1).toNat = R := ⟨_, rfl⟩
  rw [hR]
  have HR := Lib.hid hR
  have hlen : ∀ t, (answer l A t).f1.length ≤ 1048576 := fun t => Nat.le_trans (room_answer l A t _ (Nat.le_refl _)) hm
  have HLN := Lib.hid hlen
  have HM := Lib.hid hm
  clear hst hR hlen hm
  go_enter Try.func36, Try.ntmps36
  go_wp2_with fail
  go_at_call 52
  refine (l1_yes u 0 1000 _ (by omega) (by omega)).mono ?_
  rintro e w1 ⟨rfl, rfl⟩
  go_wp2_with fail
  go_at_call 52
  refine (l1_yes v u 1000 _ (by omega) (by omega)).mono ?_
  rintro e w1 ⟨rfl, rfl⟩
  go_wp2
  go_loopw [9] (fun i wr => ∃ (j : Nat) (t : Int), Hid (t = u + j) ∧ u ≤ t ∧ t ≤ v + 1 ∧ i = .int .i64 t ∧ Hid (steadyTo l A u j = true) ∧ Blk 26 w.heap.size [.int .i64 A.f0, .int .i64 A.f1, .int .i64 A.f2] wr ∧ Below w.heap.size w wr) (fun i _ => (v + 1 - Go.RowKit.intOf i).toNat)
  case atStart => exact ⟨0, u, by simp [Hid], by omega, by omega, rfl, by simp [Hid, steadyTo], q0, hB0⟩
  case round =>
    obtain ⟨j, t, HJ, ht0, ht1, rfl, HS, qA, hbl⟩ := hrel
    clear q0 hB0
    have hbs := hbl.size
    by_cases hlt : t ≤ v
    · have hd : decide (t ≤ v) = true := by simpa using hlt
      have s3 : wr.drew.cell? ⟨w.heap.size, 0, none⟩ = some (.int .i64 A.f0) ∧ wr.drew.cell? ⟨w.heap.size, 1, none⟩ = some (.int .i64 A.f1) ∧ wr.drew.cell? ⟨w.heap.size, 2, none⟩ = some (.int .i64 A.f2) := ⟨(Blk.drew qA).at rfl, (Blk.drew qA).at rfl, (Blk.drew qA).at rfl⟩
      have hL := (h.under hbl hh).below ((Below.refl _ _).drew)
      have ee0 : Below wr.heap.size wr wr.drew := (Below.refl _ _).drew
      obtain ⟨X, hX⟩ : ∃ X, answer l A u = X := ⟨_, rfl⟩
      obtain ⟨Y, hY⟩ : ∃ Y, answer l A t = Y := ⟨_, rfl⟩
      have HXY := Lib.hid (And.intro hX hY)
      have hX1 : X.f1.length ≤ 1048576 := by rw [← hX]; exact HLN.out _
      have hY1 : Y.f1.length ≤ 1048576 := by rw [← hY]; exact HLN.out _
      have hc1 := fun V hV hs => answer_spec lo hi V L c l hV hs HM.out A u
      have hc2 := fun V hV hs => answer_spec lo hi V L c l hV hs HM.out A t
      rw [hX] at hc1
      rw [hY] at hc2
      obtain ⟨r, hr⟩ : ∃ r, sameRes X Y = r := ⟨_, rfl⟩
      have HRS := Lib.hid hr
      have hE := fun V a b c d ra rb => same_spec 0 V.heap.size 0 V.heap.size X.f0 X.f2.f0 X.f2.f1 X.f2.f2 Y.f0 Y.f2.f0 Y.f2.f1 Y.f2.f2 V a b X.f1.length c Y.f1.length d X.f1 Y.f1 ra rb hX1 hY1
      rw [show decide (X.f0 = Y.f0 ∧ (X.f2.f0 = Y.f2.f0 ∧ X.f2.f1 = Y.f2.f1 ∧ X.f2.f2 = Y.f2.f2) ∧ X.f1 = Y.f1) = r from hr] at hE
      clear hX hY hr
      go_wp2_with fail
      go_region_held3 (fun w' => w'.cell? ⟨w.heap.size, 0, none⟩ = some (.int .i64 A.f0) ∧ w'.cell? ⟨w.heap.size, 1, none⟩ = some (.int .i64 A.f1) ∧ w'.cell? ⟨w.heap.size, 2, none⟩ = some (.int .i64 A.f2))
        (first | (with_reducible exact s3) | go_keep)
        (first
        | (go_at_call 22; (with_reducible (show Calls _ _ #[_, _, Value.int IntKind.i64 u] _ _)); refine Calls.mono (hc1 _ hL (Nat.le_trans hh hbs)) ?_; rintro e u1 ⟨x1, y1, rfl, o1, hb1⟩; have hv1 := ee0.trans (hb1.mono (Nat.le_refl _)); have qA := qA.below hv1; have hL := hL.below hb1; have hz1 := hv1.size; have o1 := (Owns.lies o1 (lo := 0) (hi := u1.heap.size) (fun t h => ⟨Nat.zero_le _, h.2⟩)); have s3 : u1.cell? ⟨w.heap.size, 0, none⟩ = some (.int .i64 A.f0) ∧ u1.cell? ⟨w.heap.size, 1, none⟩ = some (.int .i64 A.f1) ∧ u1.cell? ⟨w.heap.size, 2, none⟩ = some (.int .i64 A.f2) := ⟨qA.at rfl, qA.at rfl, qA.at rfl⟩)
        | (go_at_call 22; (with_reducible (show Calls _ _ #[_, _, Value.int IntKind.i64 t] _ _)); refine Calls.mono (hc2 _ hL (Nat.le_trans hh (Nat.le_trans hbs hz1))) ?_; rintro e u2 ⟨x2, y2, rfl, o2, hb2⟩; have hv2 := hv1.trans (hb2.mono hz1); have qA := qA.below hb2; have o1 := (o1.below hb2).more (Nat.le_refl _) hb2.size; have o2 := (Owns.lies o2 (lo := 0) (hi := u2.heap.size) (fun t h => ⟨Nat.zero_le _, h.2⟩)); have s3 : u2.cell? ⟨w.heap.size, 0, none⟩ = some (.int .i64 A.f0) ∧ u2.cell? ⟨w.heap.size, 1, none⟩ = some (.int .i64 A.f1) ∧ u2.cell? ⟨w.heap.size, 2, none⟩ = some (.int .i64 A.f2) := ⟨qA.at rfl, qA.at rfl, qA.at rfl⟩)
        | (go_at_call 61; refine Calls.mono (hE _ _ _ _ _ o1.row'.1 o2.row'.1) ?_; rintro e u3 ⟨rfl, hb3⟩; have qA := qA.below hb3; have hv3 := hv2.trans (hb3.mono hv2.size); have s3 : u3.cell? ⟨w.heap.size, 0, none⟩ = some (.int .i64 A.f0) ∧ u3.cell? ⟨w.heap.size, 1, none⟩ = some (.int .i64 A.f1) ∧ u3.cell? ⟨w.heap.size, 2, none⟩ = some (.int .i64 A.f2) := ⟨qA.at rfl, qA.at rfl, qA.at rfl⟩))
      all_goals
        have hbf := hbl.trans (hv3.mono hbs)
        clear hc1 hc2 hE hL o1 o2
        cases r with
        | true =>
          have hnx := steadyTo_next (l := l) (A := A) (u := u) (j := j) HS.out (by rw [← HJ.out, HXY.out.1, HXY.out.2]; exact HRS.out)
          have HNX := Lib.hid hnx
          clear hnx
          go_wp2
          go_roundw
          case rel => exact ⟨j + 1, t + 1, by have := HJ.out; show t + 1 = u + ((j + 1 : Nat) : Int); omega, by omega, by omega, by go_num, HNX, qA, hbf⟩
          case measure => simp [Go.RowKit.intOf]; omega
        | false =>
          have hno := steadyTo_no (l := l) (A := A) (u := u) (j := j) (n := (v - u + 1).toNat) (by have := HJ.out; omega) (by rw [← HJ.out, HXY.out.1, HXY.out.2]; exact HRS.out)
          rw [HR.out] at hno
          go_wp2
          go_ret
          exact ⟨by first | rfl | (rw [hno]; rfl), hbf⟩
    · have hd : decide (t ≤ v) = false := by simpa using hlt
      have e1 := HS.out
      rw [show j = (v - u + 1).toNat by have := HJ.out; omega, HR.out] at e1
      go_wp2
      go_ret
      exact ⟨by first | rfl | (rw [e1]; rfl), hbl⟩
end Go.Proofs.Ytldpgkbemgpacaa.Sites
