/-
  Sites that change: the program. Whether an address answers the same from one tick to another.
  Conditions: the versions lie in memory, with 2^20 numbers at most.
-/
import Derived.Test.YtldpgkbemgpacaaSiteI
import Derived.Test.YtldpgkbemgpacaaGiven9
import Derived.Test.YtldpgkbemgpacaaResInts
namespace Go.Proofs.Ytldpgkbemgpacaa.Sites
open Go Go.RowKit Go.Proofs.Ytldpgkbemgpacaa.Mem Go.Proofs.Ytldpgkbemgpacaa.Gen Go.Proofs.Ytldpgkbemgpacaa.Adr Go.Proofs.Ytldpgkbemgpacaa.Res Go.Proofs.Ytldpgkbemgpacaa.Range

theorem ans_wf0 {lo hi : Nat} {w : World} {L : Option Addr} {c : Nat} {l : List TVersion} (h : Lies lo hi w (dVersion l) (.slice L l.length c)) (A : TAddress) (t : Int) : (Lit.int .i64 (answer l A t).f0).wf = true := by
  rcases answerTo_from l A t l.length with e | ⟨i, hi', _, e, _⟩
  · unfold answer; rw [e]; decide
  · obtain ⟨_, _, _, _, _, _, _, _, _, _, _, _, _, w4, _⟩ := at_Version h hi'
    unfold answer; rw [e]; exact w4
/-- The same at the first j ticks, where they lie between the two. -/
def SameTo (p : List TVersion) (u v : Int) (j : Nat) : Prop := ∀ i, i < j → u ≤ (ticks p).getD i 0 → (ticks p).getD i 0 ≤ v → answerIn p ((ticks p).getD i 0) = answerIn p u
theorem SameTo.zero (p : List TVersion) (u v : Int) : SameTo p u v 0 := fun i h => absurd h (by omega)
theorem SameTo.next {p : List TVersion} {u v x : Int} {j : Nat} (h : SameTo p u v j) (hx : (ticks p).getD j 0 = x) (hj : u ≤ x → x ≤ v → answerIn p x = answerIn p u) : SameTo p u v (j + 1) := fun i hi h1 h2 => by
  by_cases he : i = j
  · subst he
    rw [hx] at h1 h2 ⊢
    exact hj h1 h2
  · exact h i (by omega) h1 h2
theorem SameTo.end {l : List TVersion} {A : TAddress} {u v : Int} (huv : u ≤ v) (h : SameTo (past l A) u v (ticks (past l A)).length) : steadyTo l A u (v - u + 1).toNat = true := (steady_iff huv).2 fun x hx h1 h2 => by
  obtain ⟨i, hi, e⟩ := List.getElem_of_mem hx
  have eg : (ticks (past l A)).getD i 0 = x := by rw [List.getD_eq_getElem?_getD, List.getElem?_eq_getElem hi, Option.getD_some, e]
  have := h i hi
  rw [eg] at this
  exact this h1 h2
theorem steady_no {l : List TVersion} {A : TAddress} {u v x : Int} {j : Nat} (huv : u ≤ v) (hj : j < (ticks (past l A)).length) (hx : (ticks (past l A)).getD j 0 = x) (h1 : u ≤ x) (h2 : x ≤ v) (h : ¬ answerIn (past l A) x = answerIn (past l A) u) : steadyTo l A u (v - u + 1).toNat = false := by
  cases hs : steadyTo l A u (v - u + 1).toNat with
  | false => rfl
  | true =>
    refine absurd ((steady_iff huv).1 hs x ?_ h1 h2) h
    rw [← hx, List.getD_eq_getElem?_getD, List.getElem?_eq_getElem hj]
    exact List.getElem_mem _

set_option maxHeartbeats 8000000 in
set_option maxRecDepth 100000 in
theorem steady_impl (lo hi : Nat) (w : World) (L : Option Addr) (c : Nat) (l : List TVersion) (h : Lies lo hi w (dVersion l) (.slice L l.length c)) (hh : hi ≤ w.heap.size) (hm : room (dVersion l) ≤ 1048576) (A : TAddress) (hA : WfA A) (u v : Int) :
    Calls Try.prog 14 #[.slice L l.length c, .agg #[.int .i64 A.f0, .int .i64 A.f1, .int .i64 A.f2], .int .i64 u, .int .i64 v] w fun e w' => e = .returned (.bool (steadyB l A u v)) ∧ Below w.heap.size w w' := by
  obtain ⟨W, hW⟩ : ∃ W, w.alloc (.cells #[.int .i64 A.f0, .int .i64 A.f1, .int .i64 A.f2] 26) = W := ⟨_, rfl⟩
  have hB0 : Below w.heap.size w W := by rw [← hW]; exact (Below.refl _ _).alloc (Nat.le_refl _) _
  have hs0 : W.heap.size = w.heap.size + 1 := by rw [← hW]; simp only [gsize_alloc]
  have qA : Blk 26 w.heap.size (adrCells A) W := by rw [← hW]; exact Blk.new _ (adrCells A) w
  have HW := Lib.hid hW
  clear hW
  by_cases t1 : 0 ≤ u ∧ u ≤ 1000
  rotate_left
  · rw [show steadyB l A u v = false by unfold steadyB; rw [decide_eq_false t1]; rfl]
    go_enter Try.func14, Try.ntmps14
    go_upto_region 1 with fail
    rw [HW.out]
    go_wp2_with fail
    go_at_call 46
    refine (in_no u 0 1000 _ (by omega)).mono ?_
    rintro e w1 ⟨rfl, rfl⟩
    go_wp2
    go_ret
    exact ⟨rfl, hB0⟩
  by_cases t2 : u ≤ v ∧ v ≤ 1000
  rotate_left
  · rw [show steadyB l A u v = false by unfold steadyB; rw [decide_eq_false t2]; simp]
    go_enter Try.func14, Try.ntmps14
    go_upto_region 1 with fail
    rw [HW.out]
    go_wp2_with fail
    go_at_call 46
    refine (in_yes u 0 1000 _ (by omega) (by omega)).mono ?_
    rintro e w1 ⟨rfl, rfl⟩
    go_wp2_with fail
    go_at_call 46
    refine (in_no v u 1000 _ (by omega)).mono ?_
    rintro e w1 ⟨rfl, rfl⟩
    go_wp2
    go_ret
    exact ⟨rfl, hB0⟩
  have hst : steadyB l A u v = steadyTo l A u (v - u + 1).toNat := by unfold steadyB; rw [decide_eq_true t1, decide_eq_true t2]; rfl
  rw [hst]
  have hsm := past_len hm A
  have hxs : ∀ s, (answer l A s).f1.length ≤ 1048576 := fun s => Nat.le_trans (room_answer l A s _ (Nat.le_refl _)) hm
  have hw0 := fun s => ans_wf0 h A s
  have hw2 := fun s => ans_wf h A s
  have hE := fun (j : Nat) => SameTo.end (l := l) (A := A) (u := u) (v := v) t2.1
  have hNO := fun (x : Int) (j : Nat) => steady_no (l := l) (A := A) (u := u) (v := v) (x := x) (j := j) t2.1
  simp only [← answer_past] at hxs hw0 hw2
  obtain ⟨p, hp⟩ : ∃ p, past l A = p := ⟨_, rfl⟩
  have hps : sel l A l.length = p := hp
  rw [hp] at hsm hE hNO
  simp only [hp] at hxs hw0 hw2
  obtain ⟨Z, hZ⟩ : ∃ Z, ticks p = Z := ⟨_, rfl⟩
  rw [hZ] at hE
  simp only [hZ] at hNO
  obtain ⟨R, hR⟩ : ∃ R, steadyTo l A u (v - u + 1).toNat = R := ⟨_, rfl⟩
  rw [hR] at hE ⊢
  simp only [hR] at hNO
  have HE := Lib.hid (hE 0)
  have HNO := Lib.hid hNO
  have HS := Lib.hid hps
  have HXS := Lib.hid hxs
  have HW0 := Lib.hid hw0
  have HWF := Lib.hid hw2
  have HZ := Lib.hid hZ
  clear hst hp hps hE hNO hxs hw0 hw2 hR hZ
  go_enter Try.func14, Try.ntmps14
  go_upto_region 1 with fail
  rw [HW.out]
  go_wp2_with fail
  go_at_call 46
  refine (in_yes u 0 1000 _ (by omega) (by omega)).mono ?_
  rintro e w1 ⟨rfl, rfl⟩
  go_wp2_with fail
  go_at_call 46
  refine (in_yes v u 1000 _ (by omega) (by omega)).mono ?_
  rintro e w1 ⟨rfl, rfl⟩
  go_upto_region 3 with fail
  have hP := pasts_of lo hi W.drew L c l ((h.under hB0 hh).drewN 1) (by show hi ≤ W.heap.size; omega) hm
  have a0 : W.drew.cell? ⟨w.heap.size, 0, none⟩ = some (.int .i64 A.f0) := qA.at rfl
  have a1 : W.drew.cell? ⟨w.heap.size, 1, none⟩ = some (.int .i64 A.f1) := qA.at rfl
  have a2 : W.drew.cell? ⟨w.heap.size, 2, none⟩ = some (.int .i64 A.f2) := qA.at rfl
  refine wp_region_held_drew (S := (fun w' => w'.cell? ⟨w.heap.size, 0, none⟩ = some (.int .i64 A.f0) ∧ w'.cell? ⟨w.heap.size, 1, none⟩ = some (.int .i64 A.f1) ∧ w'.cell? ⟨w.heap.size, 2, none⟩ = some (.int .i64 A.f2))) (by kernel_rfl) ⟨a0, a1, a2⟩ (fun hHeld => ?_)
  refine wpAnyH_take (i := 0) (v := ?vb0) (List.getElem?_toArray.trans rfl) (by kernel_rfl) (by kernel_rfl) (by kernel_rfl) (fun _ _ _ h => h) (Or.inl ⟨by rfl, ?yb0⟩) (by assumption) ?rb0
  case yb0 => (intro w hSw; (try dsimp only at hSw); go_simp; try with_reducible rfl)
  try simp only [Act.put, List.setIfInBounds_toArray, List.set_cons_zero, List.set_cons_succ]
  refine wpAnyH_take (i := 2) (v := .agg #[.int .i64 A.f0, .int .i64 A.f1, .int .i64 A.f2]) (List.getElem?_toArray.trans rfl) (by kernel_rfl) (by kernel_rfl) (by kernel_rfl) (fun _ _ _ h => h) (Or.inl ⟨by rfl, ?yb2⟩) (by assumption) ?rb2
  case yb2 => (intro w hSw; (try dsimp only at hSw); go_simp; try simp [hSw])
  try simp only [Act.put, List.setIfInBounds_toArray, List.set_cons_zero, List.set_cons_succ]
  refine wpAnyH_ready (rs := [1]) (by kernel_rfl) (by simp) ?_
  refine AllReadyH.cons (List.getElem?_toArray.trans rfl) (fun K hK => ?_) AllReadyH.nil
  go_simp
  go_at_call 41
  refine hP.mono ?_
  rintro e w1 ⟨F, rfl, hp1, hg1, hb1⟩
  have hz1 := hb1.size
  have qA := Blk.below (w := W.drew) qA hb1
  have s9 : w1.cell? ⟨w.heap.size, 0, none⟩ = some (.int .i64 A.f0) ∧ w1.cell? ⟨w.heap.size, 1, none⟩ = some (.int .i64 A.f1) ∧ w1.cell? ⟨w.heap.size, 2, none⟩ = some (.int .i64 A.f2) := ⟨qA.at rfl, qA.at rfl, qA.at rfl⟩
  refine hK.out _ _ s9 (fun hHeld => ?_)
  clear hK K
  try simp only [Act.put, List.setIfInBounds_toArray, List.set_cons_zero, List.set_cons_succ]
  refine wpAnyH_ready (rs := [3]) (by kernel_rfl) (by simp) ?_
  refine AllReadyH.cons (List.getElem?_toArray.trans rfl) (fun K hK => ?_) AllReadyH.nil
  go_simp
  obtain ⟨v0, hv0⟩ : ∃ v0, F A = v0 := ⟨_, rfl⟩
  have hlook := hp1.look hA
  have hpa := hg1.one A hA
  rw [hv0] at hlook hpa
  rw [HS.out] at hpa
  obtain ⟨A0, c0, hv1⟩ := hpa.shape
  subst hv1
  simp only [vA] at hlook
  rw [show W.drew.heap.size = w.heap.size + 1 from hs0] at hlook
  go_simp
  have s9 : w1.cell? ⟨w.heap.size, 0, none⟩ = some (.int .i64 A.f0) ∧ w1.cell? ⟨w.heap.size, 1, none⟩ = some (.int .i64 A.f1) ∧ w1.cell? ⟨w.heap.size, 2, none⟩ = some (.int .i64 A.f2) := ⟨qA.at rfl, qA.at rfl, qA.at rfl⟩
  refine hK.out _ _ s9 (fun hHeld => ?_)
  clear hK K
  try simp only [Act.put, List.setIfInBounds_toArray, List.set_cons_zero, List.set_cons_succ]
  refine wpAnyH_ready (rs := [4]) (by kernel_rfl) (by simp) ?_
  refine AllReadyH.cons (List.getElem?_toArray.trans rfl) (fun K hK => ?_) AllReadyH.nil
  go_simp
  have s9 : w1.cell? ⟨w.heap.size, 0, none⟩ = some (.int .i64 A.f0) ∧ w1.cell? ⟨w.heap.size, 1, none⟩ = some (.int .i64 A.f1) ∧ w1.cell? ⟨w.heap.size, 2, none⟩ = some (.int .i64 A.f2) := ⟨qA.at rfl, qA.at rfl, qA.at rfl⟩
  refine hK.out _ _ s9 (fun hHeld => ?_)
  clear hK K
  try simp only [Act.put, List.setIfInBounds_toArray, List.set_cons_zero, List.set_cons_succ]
  refine wpAnyH_done (by kernel_rfl) ?_ _
  have hz0 : w.heap.size + 1 ≤ w1.heap.size := by have : W.drew.heap.size = w.heap.size + 1 := hs0; omega
  have hLp := hpa.lies (by omega)
  have hbw : Below w.heap.size w w1 := (gbelow_drewN hB0 1).trans (hb1.mono (by show w.heap.size ≤ W.heap.size; omega))
  have hans := past_answer 0 w1.heap.size w1 A0 c0 p hLp (Nat.le_refl _) hsm.1 hsm.2 u
  obtain ⟨X, hX⟩ : ∃ X, answerIn p u = X := ⟨_, rfl⟩
  rw [hX] at hans
  have hXl : X.f1.length ≤ 1048576 := by rw [← hX]; exact HXS.out u
  have hXw : (Lit.int .i64 X.f0).wf = true := by rw [← hX]; exact HW0.out u
  have hXa : WfA X.f2 := by rw [← hX]; exact HWF.out u
  have HX := Lib.hid hX
  obtain ⟨m, hm'⟩ : ∃ m, p.length = m := ⟨_, rfl⟩
  rw [hm'] at hans hLp ⊢
  have HM := Lib.hid hm'
  clear hX hm' hpa hg1 hp1 a0 a1 a2 hP qA hB0 hb1 hs0 hm hlook hv0
  go_wp2_with fail
  go_at_call 42
  refine hans.mono ?_
  rintro e w2 ⟨x1, y1, rfl, ho2, hb2⟩
  have hz2 := hb2.size
  obtain ⟨w3, hw3⟩ : ∃ w3, w2.alloc (.cells #[.int .i64 X.f0, .slice x1 X.f1.length y1, .int .i64 X.f2.f0, .int .i64 X.f2.f1, .int .i64 X.f2.f2] 31) = w3 := ⟨_, rfl⟩
  have hb3 : Below w2.heap.size w2 w3 := by rw [← hw3]; exact (Below.refl _ _).alloc (Nat.le_refl _) _
  have hz3 : w3.heap.size = w2.heap.size + 1 := by rw [← hw3]; simp only [gsize_alloc]
  have q1 : Blk 31 w2.heap.size (resCells X x1 y1) w3 := by rw [← hw3]; exact Blk.new _ (resCells X x1 y1) w2
  have HW3 := Lib.hid hw3
  have hL3 := (hLp.below hb2).below hb3
  have hX3 : Lies 0 w3.heap.size w3 (ints X.f1) (.slice x1 X.f1.length y1) := ((Owns.lies ho2 (lo := 0) (hi := w2.heap.size) (fun t ht => ⟨Nat.zero_le _, ht.2⟩)).below hb3).more (Nat.le_refl _) (by omega)
  have hbw3 := (hbw.trans (hb2.mono (by omega))).trans (hb3.mono (by omega))
  have hch := past_changes 0 w1.heap.size w3 A0 c0 p (by rw [HM.out]; exact hL3) (by omega) hsm.1
  rw [HZ.out, HM.out] at hch
  clear hw3 hans ho2
  go_upto_region 5 with fail
  rw [HW3.out]
  go_wp2_with fail
  go_at_call 43
  refine hch.mono ?_
  rintro e w4 ⟨x4, y4, rfl, ho4, hk4, hk5, hb4⟩
  have hz4 := hb4.size
  have hL4 := hL3.below hb4
  have hX4 := (hX3.below hb4).more (Nat.le_refl _) hz4
  have q4 := q1.below hb4
  have hbw4 := hbw3.trans (hb4.mono (by omega))
  have hzl : Z.length ≤ 1048576 := by rw [← HZ.out]; exact Nat.le_trans (ticks_len _) hsm.1
  obtain ⟨nz, hnz⟩ : ∃ nz, Z.length = nz := ⟨_, rfl⟩
  rw [hnz] at ho4 hk4 hzl ⊢
  have HNZ := Lib.hid hnz
  clear hnz hch hL3 hX3 q1 hbw3 hLp
  go_wp2_with fail
  go_loopw [32] (fun i wr => ∃ j : Nat, j ≤ nz ∧ i = .int .i64 j ∧ Hid (SameTo p u v j) ∧ Below w4.heap.size w4 wr) (fun i _ => nz - (Go.RowKit.intOf i).toNat)
  case atStart => exact ⟨0, Nat.zero_le _, rfl, SameTo.zero p u v, Below.refl _ _⟩
  case round =>
    obtain ⟨j, hj, rfl, hsame, hbl⟩ := hrel
    have hbs := hbl.size
    by_cases hlt : j < nz
    · have hLr := hL4.below hbl
      have hXr := (hX4.below hbl).more (Nat.le_refl _) hbs
      have qr := q4.below hbl
      obtain ⟨b, off, rfl, _, _, hcl⟩ := (ho4.row.below hbl).cell hlt
      have HN1 := HNO.out
      have HS1 := fun x hx hj => SameTo.next (p := p) (u := u) (v := v) (x := x) (j := j) hsame.out hx hj
      rw [HZ.out] at HS1
      obtain ⟨x, hx⟩ : ∃ x, Z.getD j 0 = x := ⟨_, rfl⟩
      have HN2 := Lib.hid (HN1 x j (by rw [HNZ.out]; exact hlt) hx)
      have HS2 := Lib.hid (HS1 x hx)
      rw [hx] at hcl
      clear HN1 HS1 hsame hx
      by_cases hin : u ≤ x ∧ x ≤ v
      · obtain ⟨Y, hY⟩ : ∃ Y, answerIn p x = Y := ⟨_, rfl⟩
        have hYl : Y.f1.length ≤ 1048576 := by rw [← hY]; exact HXS.out x
        have hYw : (Lit.int .i64 Y.f0).wf = true := by rw [← hY]; exact HW0.out x
        have hYa : WfA Y.f2 := by rw [← hY]; exact HWF.out x
        have HY := Lib.hid hY
        obtain ⟨r, hr⟩ : ∃ r, sameRes Y X = r := ⟨_, rfl⟩
        have HRS := Lib.hid hr
        have hLd : Lies 0 w1.heap.size wr.drew (dVersion p) (.slice A0 p.length c0) := by rw [HM.out]; exact hLr.drewN 1
        have hans := past_answer 0 w1.heap.size wr.drew A0 c0 p hLd (by show w1.heap.size ≤ wr.heap.size; omega) hsm.1 hsm.2 x
        rw [HY.out, HM.out] at hans
        have s3 : wr.drew.cell? ⟨w2.heap.size, 0, none⟩ = some (.int .i64 X.f0) ∧ wr.drew.cell? ⟨w2.heap.size, 1, none⟩ = some (.slice x1 X.f1.length y1) ∧ wr.drew.cell? ⟨w2.heap.size, 2, none⟩ = some (.int .i64 X.f2.f0) ∧ wr.drew.cell? ⟨w2.heap.size, 3, none⟩ = some (.int .i64 X.f2.f1) ∧ wr.drew.cell? ⟨w2.heap.size, 4, none⟩ = some (.int .i64 X.f2.f2) := ⟨qr.at rfl, qr.at rfl, qr.at rfl, qr.at rfl, qr.at rfl⟩
        have hXd := hXr.drewN 1
        have ee0 : Below wr.heap.size wr wr.drew := (Below.refl _ _).drew
        have hE := fun V a b c d ra rb => alike_impl 0 V.heap.size 0 V.heap.size Y.f0 Y.f2.f0 Y.f2.f1 Y.f2.f2 X.f0 X.f2.f0 X.f2.f1 X.f2.f2 V a b Y.f1.length c X.f1.length d Y.f1 X.f1 ra rb hYl hXl hYw hYa.1 hYa.2.1 hYa.2.2 hXw hXa.1 hXa.2.1 hXa.2.2
        rw [show decide (Y.f0 = X.f0 ∧ (Y.f2.f0 = X.f2.f0 ∧ Y.f2.f1 = X.f2.f1 ∧ Y.f2.f2 = X.f2.f2) ∧ Y.f1 = X.f1) = r from hr] at hE
        clear hY hr hLd
        go_upto_region 8 with fail
        go_region_held3 (fun w' => w'.cell? ⟨w2.heap.size, 0, none⟩ = some (.int .i64 X.f0) ∧ w'.cell? ⟨w2.heap.size, 1, none⟩ = some (.slice x1 X.f1.length y1) ∧ w'.cell? ⟨w2.heap.size, 2, none⟩ = some (.int .i64 X.f2.f0) ∧ w'.cell? ⟨w2.heap.size, 3, none⟩ = some (.int .i64 X.f2.f1) ∧ w'.cell? ⟨w2.heap.size, 4, none⟩ = some (.int .i64 X.f2.f2))
          (first | (with_reducible exact s3) | go_keep)
          (first
          | (go_at_call 46; refine Calls.mono (in_yes x u v _ hin.1 hin.2) ?_; rintro e w5 ⟨rfl, rfl⟩)
          | (go_at_call 42; refine Calls.mono hans ?_; rintro e u1 ⟨x5, y5, rfl, o5, hb5⟩; have qr5 := Blk.below (w := wr.drew) qr hb5; have hv5 := ee0.trans (hb5.mono (Nat.le_refl _)); have hz5 := hv5.size; have hX5 := (Lies.below (w := wr.drew) hXd hb5).more (Nat.le_refl _) hz5; have o5 := (Owns.lies o5 (lo := 0) (hi := u1.heap.size) (fun t h => ⟨Nat.zero_le _, h.2⟩)); have s3 : u1.cell? ⟨w2.heap.size, 0, none⟩ = some (.int .i64 X.f0) ∧ u1.cell? ⟨w2.heap.size, 1, none⟩ = some (.slice x1 X.f1.length y1) ∧ u1.cell? ⟨w2.heap.size, 2, none⟩ = some (.int .i64 X.f2.f0) ∧ u1.cell? ⟨w2.heap.size, 3, none⟩ = some (.int .i64 X.f2.f1) ∧ u1.cell? ⟨w2.heap.size, 4, none⟩ = some (.int .i64 X.f2.f2) := ⟨qr5.at rfl, qr5.at rfl, qr5.at rfl, qr5.at rfl, qr5.at rfl⟩)
          | (go_at_call 13; refine Calls.mono (hE _ _ _ _ _ o5.row'.1 hX5.row'.1) ?_; rintro e u2 ⟨rfl, hb6⟩; have qr6 := Blk.below (w := u1) qr5 hb6; have hv6 := hv5.trans (hb6.mono hz5); have s3 : u2.cell? ⟨w2.heap.size, 0, none⟩ = some (.int .i64 X.f0) ∧ u2.cell? ⟨w2.heap.size, 1, none⟩ = some (.slice x1 X.f1.length y1) ∧ u2.cell? ⟨w2.heap.size, 2, none⟩ = some (.int .i64 X.f2.f0) ∧ u2.cell? ⟨w2.heap.size, 3, none⟩ = some (.int .i64 X.f2.f1) ∧ u2.cell? ⟨w2.heap.size, 4, none⟩ = some (.int .i64 X.f2.f2) := ⟨qr6.at rfl, qr6.at rfl, qr6.at rfl, qr6.at rfl, qr6.at rfl⟩))
        all_goals
          have hbf := hbl.trans (hv6.mono hbs)
          clear hE hans o5 hX5
          cases r with
          | true =>
            have hnx := HS2.out fun _ _ => by rw [HY.out, HX.out]; exact sameRes_iff.1 HRS.out
            have HNX := Lib.hid hnx
            clear hnx
            go_wp2
            go_roundw
            case rel => exact ⟨j + 1, by omega, by go_num, HNX, hbf⟩
            case measure => simp [Go.RowKit.intOf]; omega
          | false =>
            have hno := HN2.out hin.1 hin.2 (fun e => by rw [HY.out, HX.out] at e; rw [e, sameRes_iff.2 rfl] at HRS; exact absurd HRS.out (by simp))
            go_wp2
            go_ret
            exact ⟨by first | (rw [hno]; done) | (rw [hno]; rfl), hbw4.trans (hbf.mono (by omega))⟩
      · have hnx := HS2.out fun h1 h2 => absurd ⟨h1, h2⟩ hin
        have HNX := Lib.hid hnx
        clear hnx
        go_upto_region 8 with fail
        refine wp_region_held_drew (S := (fun _ => True)) (by kernel_rfl) trivial (fun hHeld => ?_)
        refine wpAnyH_take (i := 0) (v := ?vc0) (List.getElem?_toArray.trans rfl) (by kernel_rfl) (by kernel_rfl) (by kernel_rfl) (fun _ _ _ h => h) (Or.inl ⟨by rfl, ?yc0⟩) (by assumption) ?rc0
        case yc0 => (intro w hSw; (try dsimp only at hSw); go_simp; try with_reducible rfl)
        try simp only [Act.put, List.setIfInBounds_toArray, List.set_cons_zero, List.set_cons_succ]
        refine wpAnyH_take (i := 1) (v := ?vc1) (List.getElem?_toArray.trans rfl) (by kernel_rfl) (by kernel_rfl) (by kernel_rfl) (fun _ _ _ h => h) (Or.inl ⟨by rfl, ?yc1⟩) (by assumption) ?rc1
        case yc1 => (intro w hSw; (try dsimp only at hSw); go_simp; try with_reducible rfl)
        try simp only [Act.put, List.setIfInBounds_toArray, List.set_cons_zero, List.set_cons_succ]
        refine wpAnyH_take (i := 2) (v := ?vc2) (List.getElem?_toArray.trans rfl) (by kernel_rfl) (by kernel_rfl) (by kernel_rfl) (fun _ _ _ h => h) (Or.inl ⟨by rfl, ?yc2⟩) (by assumption) ?rc2
        case yc2 => (intro w hSw; (try dsimp only at hSw); go_simp; try with_reducible rfl)
        try simp only [Act.put, List.setIfInBounds_toArray, List.set_cons_zero, List.set_cons_succ]
        refine wpAnyH_ready (rs := [3]) (by kernel_rfl) (by simp) ?_
        refine AllReadyH.cons (List.getElem?_toArray.trans rfl) (fun K hK => ?_) AllReadyH.nil
        go_simp
        go_at_call 46
        refine (in_no x u v _ (by omega)).mono ?_
        rintro e w5 ⟨rfl, rfl⟩
        have s9 : True := trivial
        refine hK.out _ _ s9 (fun hHeld => ?_)
        clear hK K
        try simp only [Act.put, List.setIfInBounds_toArray, List.set_cons_zero, List.set_cons_succ]
        refine wpAnyH_take (i := 4) (v := ?vc4) (List.getElem?_toArray.trans rfl) (by kernel_rfl) (by kernel_rfl) (by kernel_rfl) (fun _ _ _ h => h) (Or.inl ⟨by rfl, ?yc4⟩) (by assumption) ?rc4
        case yc4 => (intro w hSw; (try dsimp only at hSw); go_simp; try with_reducible rfl)
        try simp only [Act.put, List.setIfInBounds_toArray, List.set_cons_zero, List.set_cons_succ]
        refine wpAnyH_take (i := 5) (v := undef) (List.getElem?_toArray.trans rfl) (by kernel_rfl) (by kernel_rfl) (by kernel_rfl) (fun _ _ _ h => h) (Or.inr ⟨by first | (simp [Region.wanted, yielded]; done) | simp [Region.wanted, yielded, undef], rfl⟩) (by assumption) ?_
        try simp only [Act.put, List.setIfInBounds_toArray, List.set_cons_zero, List.set_cons_succ]
        refine wpAnyH_take (i := 6) (v := undef) (List.getElem?_toArray.trans rfl) (by kernel_rfl) (by kernel_rfl) (by kernel_rfl) (fun _ _ _ h => h) (Or.inr ⟨by first | (simp [Region.wanted, yielded]; done) | simp [Region.wanted, yielded, undef], rfl⟩) (by assumption) ?_
        try simp only [Act.put, List.setIfInBounds_toArray, List.set_cons_zero, List.set_cons_succ]
        refine wpAnyH_take (i := 7) (v := undef) (List.getElem?_toArray.trans rfl) (by kernel_rfl) (by kernel_rfl) (by kernel_rfl) (fun _ _ _ h => h) (Or.inr ⟨by first | (simp [Region.wanted, yielded]; done) | simp [Region.wanted, yielded, undef], rfl⟩) (by assumption) ?_
        try simp only [Act.put, List.setIfInBounds_toArray, List.set_cons_zero, List.set_cons_succ]
        refine wpAnyH_take (i := 8) (v := undef) (List.getElem?_toArray.trans rfl) (by kernel_rfl) (by kernel_rfl) (by kernel_rfl) (fun _ _ _ h => h) (Or.inr ⟨by first | (simp [Region.wanted, yielded]; done) | simp [Region.wanted, yielded, undef], rfl⟩) (by assumption) ?_
        try simp only [Act.put, List.setIfInBounds_toArray, List.set_cons_zero, List.set_cons_succ]
        refine wpAnyH_take (i := 9) (v := undef) (List.getElem?_toArray.trans rfl) (by kernel_rfl) (by kernel_rfl) (by kernel_rfl) (fun _ _ _ h => h) (Or.inr ⟨by first | (simp [Region.wanted, yielded]; done) | simp [Region.wanted, yielded, undef], rfl⟩) (by assumption) ?_
        try simp only [Act.put, List.setIfInBounds_toArray, List.set_cons_zero, List.set_cons_succ]
        refine wpAnyH_take (i := 10) (v := undef) (List.getElem?_toArray.trans rfl) (by kernel_rfl) (by kernel_rfl) (by kernel_rfl) (fun _ _ _ h => h) (Or.inr ⟨by first | (simp [Region.wanted, yielded]; done) | simp [Region.wanted, yielded, undef], rfl⟩) (by assumption) ?_
        try simp only [Act.put, List.setIfInBounds_toArray, List.set_cons_zero, List.set_cons_succ]
        refine wpAnyH_take (i := 11) (v := ?vc11) (List.getElem?_toArray.trans rfl) (by kernel_rfl) (by kernel_rfl) (by kernel_rfl) (fun _ _ _ h => h) (Or.inl ⟨by rfl, ?yc11⟩) (by assumption) ?rc11
        case yc11 => (intro w hSw; (try dsimp only at hSw); go_simp; try with_reducible rfl)
        try simp only [Act.put, List.setIfInBounds_toArray, List.set_cons_zero, List.set_cons_succ]
        refine wpAnyH_done (by kernel_rfl) ?_ _
        go_wp2
        go_roundw
        case rel => exact ⟨j + 1, by omega, by go_num, HNX, gbelow_drewN hbl 1⟩
        case measure => simp [Go.RowKit.intOf]; omega
    · have hd : decide ((j : Int) < (nz : Int)) = false := by simp; omega
      obtain rfl : j = nz := by omega
      have e1 := HE.out (by rw [HNZ.out]; exact hsame.out)
      go_wp2
      go_ret
      exact ⟨by first | (rw [← e1]; done) | (rw [← e1]; rfl), hbw4.trans (hbl.mono (by omega))⟩
end Go.Proofs.Ytldpgkbemgpacaa.Sites
