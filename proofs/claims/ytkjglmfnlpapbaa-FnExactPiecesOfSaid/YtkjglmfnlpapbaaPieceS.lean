/-
  The cost of pieces, and what they make of a body: the model.
  Conditions: the bodies and the pieces lie in memory, at most 2^20 numbers each.
-/
import Derived.Test.YtkjglmfnlpapbaaPieceMath
import Derived.Test.YtkjglmfnlpapbaaPcTo
import Derived.Test.YtkjglmfnlpapbaaRowCut
import Derived.Test.YtkjglmfnlpapbaaRange
import Derived.WalkKit
import Derived.OwnWalk
namespace Go.Proofs.Ytkjglmfnlpapbaa.Pieces
open Go Go.RowKit Go.Proofs.Ytkjglmfnlpapbaa.Mem Go.Proofs.Ytkjglmfnlpapbaa.Adr Go.Proofs.Ytkjglmfnlpapbaa.Res Go.Proofs.Ytkjglmfnlpapbaa.Range

theorem CRow.room_at {lo hi n : Nat} {w : World} {a : Option Addr} {l : List Pc} (h : CRow lo hi w a n l) (hm : room l ≤ 1048576) : n ≤ 1048576 ∧ ∀ i, i < n → (pc l i).zs.length ≤ 1048576 := by
  have h1 := room_eq l
  have h2 := h.len
  refine ⟨by omega, fun i hi => ?_⟩
  have h3 := bodies_take l i (by omega)
  have h4 := bodies_le l (i + 1)
  omega

set_option maxHeartbeats 1600000 in
set_option maxRecDepth 100000 in
theorem cost_spec (lo hi : Nat) (w : World) (a : Option Addr) (n c : Nat) (l : List Pc) (hr : CRow lo hi w a n l) (hm : room l ≤ 1048576) :
    Calls Try.prog 27 #[.slice a n c] w fun e w' => e = .returned (.int .i64 (room l : Int)) ∧ w' = w := by
  obtain ⟨hn, hz⟩ := hr.room_at hm
  obtain ⟨T, hT⟩ : ∃ T : Int, T = (room l : Int) := ⟨_, rfl⟩
  rw [← hT]
  have HT := Lib.hid hT
  have HL := Lib.hid hr.len
  have HM := Lib.hid (room_eq l)
  have HB := Lib.hid hm
  clear hT hm
  go_enter Try.func27, Try.ntmps27
  go_wp2
  go_loopw [3, 4] (fun x i wr => ∃ (j : Nat) (r : Int), j ≤ n ∧ i = .int .i64 j ∧ x = .int .i64 r ∧ Hid (r = n + (bodies (l.take j) : Int)) ∧ 0 ≤ r ∧ r ≤ 1048576 ∧ wr = w) (fun _ i _ => n - (Go.RowKit.intOf i).toNat)
  case atStart => exact ⟨0, n, Nat.zero_le _, rfl, rfl, by simp [bodies, Hid], by omega, by omega, rfl⟩
  case round =>
    obtain ⟨j, r, hj, rfl, rfl, HQ, hr0, hr1, rfl⟩ := hrel
    by_cases hlt : j < n
    · obtain ⟨b, off, A, cc, rfl, _, _, hc, _, _⟩ := hr.at hlt
      have c2 := hc.c2
      have hzj := hz j hlt
      have h3 := bodies_take l j (by have := HL.out; omega)
      have h4 := bodies_le l (j + 1)
      have hs : r + ((pc l j).zs.length : Int) ≤ 1048576 ∧ r + ((pc l j).zs.length : Int) = n + (bodies (l.take (j + 1)) : Int) := by have := HQ.out; have := HM.out; have := HL.out; have := HB.out; omega
      have e1 : IntKind.wrap .i64 (r + ((pc l j).zs.length : Int)) = r + ((pc l j).zs.length : Int) := by rw [IntKind.wrap_i64]; omega
      have hs1 := hs.1
      have HS := Lib.hid hs.2
      clear hs h3 h4 hc
      go_wp2
      go_roundw
      case rel => exact ⟨j + 1, _, by omega, by go_num, rfl, HS, by omega, hs1, trivial⟩
      case measure => simp [Go.RowKit.intOf]; omega
    · have hd : decide ((j : Int) < (n : Int)) = false := by simp; omega
      have HE := Lib.hid (show j = n by omega)
      go_wp2
      go_ret
      refine ⟨?_, rfl⟩
      have h1 := HQ.out
      have h2 := HT.out
      have h3 := HM.out
      have h4 := HL.out
      rw [HE.out, ← h4, List.take_length] at h1
      rw [show r = T by omega]; rfl

/-- An append of any row of integers onto a row of the call's own; every block but the row's own stays as it was. -/
theorem wpList_append_row_keep {P : Program} {ops : Array Oper} {rest : List Oper} {o : Oper} {a : Act} {w : World} {k : IntKind} {Q : Exit → Act → World → Prop} (hgd : o.guard = none) (s x : Operand) (t : TypeId)
    (ho : o.op = .call { callee := .builtin .append, args := #[s, x], argTypes := #[t, t] })
    (base e : Nat) (i : TypeInfo) (z : Value) (bytes : Nat) (ht : P.underlying t = some (.slice e)) (hi : P.info? e = some i) (hz : i.zero = some z)
    (hsize : i.size = 1) (hby : i.bytes = bytes) (hzs : z.cells.size = 1)
    (v : Value) (n : Nat) (xs : List Int) (hs : a.eval s = v) (hown : OwnI k e base w v n xs)
    (lo hi' : Nat) (A : Option Addr) (m c : Nat) (zs : List Int) (hx : a.eval x = .slice A m c) (hr : Row k lo hi' w A m zs)
    (h63 : n + m ≤ maxLen) (hbytes : (n + m) * bytes ≤ 140737488355328) (hbase : base ≤ w.heap.size)
    (h : ∀ v' w', OwnI k e base w' v' (n + m) (xs ++ zs) → Below base w w' → (∀ b, b < w.heap.size → some b ≠ v.ownBlock → w'.heap[b]? = w.heap[b]?) → wpList P ops Q rest (a.put o.dst v') w') : wpList P ops Q (o :: rest) a w := by
  have hl := hr.len
  rcases A with _ | ad
  · have hm : m = 0 := by
      rcases Nat.eq_zero_or_pos m with h0 | h0
      · exact h0
      · obtain ⟨b, off, h, _⟩ := hr.here h0; cases h
    subst hm
    obtain rfl := List.eq_nil_of_length_eq_zero hl
    have hrun := run_append_none (P := P) t o.type i ht hi c hown
    refine wpList_plain hgd fun K hK => ?_
    unfold Oper.wp
    simp [execOp, ho, resolve, invoke, builtin, hs, hx, hrun, Result.andThen]
    exact hK _ _ (h v w (by simpa using hown) (Below.refl _ _) (fun _ _ _ => rfl))
  · refine wpList_append_own w hgd s x t ho base e i z 1 bytes ht hi hz hsize hby hzs (by omega) v n _ hs hown ad m c (zs.map (Value.int k)) hx (by simpa using hl) ?_ (ints_oneCell k zs) h63 hbytes hbase ?_
    · intro j u hu
      have hj : j < m := by
        have := (List.getElem?_eq_some_iff.1 hu).1
        simp at this; omega
      obtain ⟨b, off, hab, _, _, hc⟩ := hr.cell hj
      injection hab with hab
      subst hab
      rw [getD_map_int _ _ _ (by omega)] at hu
      injection hu with hu
      subst hu
      rw [add_pl]; exact hc
    · intro v' w' h2 h3 _
      exact h v' w' (by unfold OwnI; rw [List.map_append]; exact h2) (OwnI.grown hown h3 hbase) (fun b hb hne => h3.block b hb hne)
theorem own_ne_trio {k : IntKind} {e T b base n : Nat} {w : World} {v : Value} {zs : List Int} {x y z : Value} (h : OwnI k e base w v n zs) (q : Trio T b x y z w) (hne : e ≠ T) : some b ≠ v.ownBlock := by
  rcases h.2 with ⟨rfl, _⟩ | ⟨g, cap, cur, rfl, _, hg, _⟩
  · simp [Value.ownBlock]
  · intro he
    simp only [Value.ownBlock, Option.some.injEq] at he
    subst he
    unfold Trio at q
    rw [q] at hg
    injection hg with hg
    injection hg with _ h2 _
    exact hne h2.symm

/-- A body of its own and a word. -/
def CAns (lo : Nat) (R : List Int) (b : Bool) (w : World) (e : Ending) (w' : World) : Prop :=
  ∃ a c, e = .returned (.tuple #[.slice a R.length c, .bool b]) ∧ Own .i64 lo w'.heap.size w' a R.length R ∧ R.length ≤ c ∧ c ≤ maxLen ∧ Below lo w w'
theorem taken_wf {xs : List Int} {P : Pc} (h1 : ∀ z ∈ xs, (Lit.int .i64 z).wf = true) (h2 : ∀ z ∈ P.zs, (Lit.int .i64 z).wf = true) : ∀ z ∈ taken xs P, (Lit.int .i64 z).wf = true := fun z hz => by
  simp only [taken, List.mem_append] at hz
  rcases hz with hz | hz
  · exact h1 z (List.mem_of_mem_take (List.mem_of_mem_drop hz))
  · exact h2 z hz

set_option maxHeartbeats 4000000 in
set_option maxRecDepth 100000 in
theorem apply_spec (lo hi lo2 hi2 : Nat) (w : World) (a : Option Addr) (n c : Nat) (xs : List Int) (hr : Row .i64 lo hi w a n xs) (hh : hi ≤ w.heap.size) (hcap : n ≤ c) (hn : n ≤ 1048576) (b : Option Addr) (m d : Nat) (l : List Pc) (hl : CRow lo2 hi2 w b m l) (hh2 : hi2 ≤ w.heap.size) (hm : room l ≤ 1048576) :
    Calls Try.prog 24 #[.slice a n c, .slice b m d] w (CAns w.heap.size (applyR xs l) (applyB xs l) w) := by
  obtain ⟨i0, hi0, hz0, hz1, hz2⟩ := info_parts Nts.info
  obtain ⟨hmn, hz⟩ := hl.room_at hm
  obtain ⟨R, hR⟩ : ∃ R, applyR xs l = R := ⟨_, rfl⟩
  obtain ⟨B, hB⟩ : ∃ B, applyB xs l = B := ⟨_, rfl⟩
  rw [hR, hB]
  have HR := Lib.hid hR
  have HB := Lib.hid hB
  have HL := Lib.hid hl.len
  have HX := Lib.hid hr.len
  have HW := Lib.hid hr.wf
  have h0 := OwnI.made .i64 3 (base := w.heap.size) w (Nat.le_refl _)
  have hb0 : Below w.heap.size w (w.alloc (.cells #[] 3)) := (Below.refl _ _).alloc (Nat.le_refl _) _
  clear hR hB hm
  go_enter Try.func24, Try.ntmps24
  go_wp2
  go_loopw [6, 7] (fun v i wr => ∃ (j : Nat) (os : List Int), j ≤ m ∧ i = .int .i64 j ∧ OwnI .i64 3 w.heap.size wr v os.length os ∧ os.length ≤ 1000 ∧ Hid (applyL xs (l.drop j) os = applyL xs l []) ∧ Hid (∀ z ∈ os, (Lit.int .i64 z).wf = true) ∧ Below w.heap.size w wr) (fun _ i _ => m - (Go.RowKit.intOf i).toNat)
  case atStart => exact ⟨0, [], Nat.zero_le _, rfl, h0, by simp, by simp [Hid], by simp [Hid], hb0⟩
  case round =>
    obtain ⟨j, os, hj, rfl, hv, hos, HA, HO, hbr⟩ := hrel
    clear h0 hb0
    have hbs := hbr.size
    obtain ⟨va, vc, rfl, hvc, hvm, hvo⟩ := hv.own HO.out
    by_cases hlt : j < m
    · obtain ⟨g, off, A, cc, rfl, _, _, hc, hla, wP⟩ := (hl.under hbr hh2).at hlt
      have hzj := hz j hlt
      have hrr := hr.under hbr hh
      have hjl : j < l.length := by rw [HL.out]; exact hlt
      have HN := Lib.hid (fun h => apply_none (xs := xs) hjl HA.out h)
      have HS := Lib.hid (fun h => apply_some (xs := xs) hjl HA.out h)
      obtain ⟨P, hP⟩ : ∃ P, pc l j = P := ⟨_, rfl⟩
      rw [hP] at hc hla wP hzj HN HS
      obtain ⟨c0, c1, c2⟩ := hc
      obtain ⟨W, hW⟩ : ∃ W, W = wr.alloc (.cells #[.int .i64 P.f, .int .i64 P.m, .slice A P.zs.length cc] 36) := ⟨_, rfl⟩
      have hA : Below wr.heap.size wr W := by rw [hW]; exact (Below.refl _ _).alloc (Nat.le_refl _) _
      have tR : Trio 36 wr.heap.size (.int .i64 P.f) (.int .i64 P.m) (.slice A P.zs.length cc) W := by rw [hW]; exact Trio.new _ _ _ _ _
      have hsW := hA.size
      have hbW := hbr.trans (hA.mono hbs)
      have hvW := hv.below hA
      have hrW := hrr.below hA
      have hlW := hla.row.below hA
      obtain ⟨p0, p1, p2⟩ := tR.cells
      have hfit : fits xs.length os.length P = decide (0 ≤ P.f ∧ (0 ≤ P.m ∧ P.m ≤ n) ∧ P.f ≤ n - P.m ∧ (os.length : Int) + P.m + P.zs.length ≤ 1000) := by unfold fits; rw [HX.out]
      have HF := Lib.hid hfit
      have bf := bounds_i64 wP.1
      have bm := bounds_i64 wP.2
      subst hW
      clear hP hfit hA hv hrr hla hjl hvo
      by_cases t1 : P.f < 0

      · have d1 : decide (P.f < 0) = true := by simpa using t1
        have hbE := hbW.alloc hbW.size (.cells #[] 3)
        go_wp2
        have hno := HN.out (by rw [HF.out]; simp; omega)
        have e1 : R = [] := by rw [← HR.out]; unfold applyR; rw [hno]; rfl
        have e2 : B = false := by rw [← HB.out]; unfold applyB; rw [hno]; rfl
        subst e1 e2
        go_ret2
        exact ⟨_, _, rfl, ⟨rfl, by simp, fun h => absurd h (by simp)⟩, Nat.le_refl _, by unfold maxLen; omega, hbE⟩
      have d1 : decide (P.f < 0) = false := by simp; omega
      by_cases t2 : 0 ≤ P.m ∧ P.m ≤ n
      rotate_left
      · go_wp2_with fail
        go_at_call 38
        refine (l1_no P.m 0 n _ (by omega)).mono ?_
        rintro e w1 ⟨rfl, rfl⟩
        have hbE := hbW.alloc hbW.size (.cells #[] 3)
        go_wp2
        have hno := HN.out (by rw [HF.out]; simp; omega)
        have e1 : R = [] := by rw [← HR.out]; unfold applyR; rw [hno]; rfl
        have e2 : B = false := by rw [← HB.out]; unfold applyB; rw [hno]; rfl
        subst e1 e2
        go_ret2
        exact ⟨_, _, rfl, ⟨rfl, by simp, fun h => absurd h (by simp)⟩, Nat.le_refl _, by unfold maxLen; omega, hbE⟩
      have w1 : IntKind.wrap .i64 ((n : Int) - P.m) = (n : Int) - P.m := by rw [IntKind.wrap_i64]; omega
      by_cases t3 : P.f > (n : Int) - P.m
      · have d3 : decide (P.f > (n : Int) - P.m) = true := by simpa using t3
        have d3b : decide ((n : Int) - P.m < P.f) = true := by simpa using t3
        go_wp2_with fail
        go_at_call 38
        refine (l1_yes P.m 0 n _ (by omega) (by omega)).mono ?_
        rintro e w1 ⟨rfl, rfl⟩
        have hbE := hbW.alloc hbW.size (.cells #[] 3)
        go_wp2
        have hno := HN.out (by rw [HF.out]; simp; omega)
        have e1 : R = [] := by rw [← HR.out]; unfold applyR; rw [hno]; rfl
        have e2 : B = false := by rw [← HB.out]; unfold applyB; rw [hno]; rfl
        subst e1 e2
        go_ret2
        exact ⟨_, _, rfl, ⟨rfl, by simp, fun h => absurd h (by simp)⟩, Nat.le_refl _, by unfold maxLen; omega, hbE⟩
      have d3 : decide (P.f > (n : Int) - P.m) = false := by simp; omega
      have d3b : decide ((n : Int) - P.m < P.f) = false := by simp; omega
      have w2 : IntKind.wrap .i64 ((os.length : Int) + P.m) = (os.length : Int) + P.m := by rw [IntKind.wrap_i64]; omega
      have w3 : IntKind.wrap .i64 ((os.length : Int) + P.m + (P.zs.length : Int)) = (os.length : Int) + P.m + (P.zs.length : Int) := by rw [IntKind.wrap_i64]; omega
      by_cases t4 : (os.length : Int) + P.m + (P.zs.length : Int) > 1000
      · have d4 : decide ((os.length : Int) + P.m + (P.zs.length : Int) > 1000) = true := by simpa using t4
        have d4b : decide (1000 < (os.length : Int) + P.m + (P.zs.length : Int)) = true := by simpa using t4
        go_wp2_with fail
        go_at_call 38
        refine (l1_yes P.m 0 n _ (by omega) (by omega)).mono ?_
        rintro e w1 ⟨rfl, rfl⟩
        have hbE := hbW.alloc hbW.size (.cells #[] 3)
        go_wp2
        have hno := HN.out (by rw [HF.out]; simp; omega)
        have e1 : R = [] := by rw [← HR.out]; unfold applyR; rw [hno]; rfl
        have e2 : B = false := by rw [← HB.out]; unfold applyB; rw [hno]; rfl
        subst e1 e2
        go_ret2
        exact ⟨_, _, rfl, ⟨rfl, by simp, fun h => absurd h (by simp)⟩, Nat.le_refl _, by unfold maxLen; omega, hbE⟩
      have d4 : decide ((os.length : Int) + P.m + (P.zs.length : Int) > 1000) = false := by simp; omega
      have d4b : decide (1000 < (os.length : Int) + P.m + (P.zs.length : Int)) = false := by simp; omega
      have w4 : IntKind.wrap .i64 (P.f + P.m) = P.f + P.m := by rw [IntKind.wrap_i64]; omega
      have hyes := HS.out (by rw [HF.out]; simp; omega)
      have HY := Lib.hid hyes
      have hsl := fun V => Nts.cut_mid V a n c P.f (P.f + P.m) P.f.toNat (P.f + P.m).toNat (by omega) (by omega) (by omega) (by omega)
      have hmid := Nts.Row.mid (c := c) hrW (f := P.f.toNat) (h := (P.f + P.m).toNat) (by omega) (by omega) hcap
      obtain ⟨aD, haD⟩ : ∃ aD, (if c = P.f.toNat then a else a.map (·.add P.f.toNat)) = aD := ⟨_, rfl⟩
      obtain ⟨K, hK⟩ : ∃ K, (P.f + P.m).toNat - P.f.toNat = K := ⟨_, rfl⟩
      obtain ⟨cD, hcD⟩ : ∃ cD, c - P.f.toNat = cD := ⟨_, rfl⟩
      rw [haD, hK, hcD] at hsl
      rw [haD, hK] at hmid
      have hK4 : os.length + K + P.zs.length ≤ 1000 := by omega
      clear haD hK hcD hyes
      go_wp2_with fail
      go_at_call 38
      refine (l1_yes P.m 0 n _ (by omega) (by omega)).mono ?_
      rintro e w1 ⟨rfl, rfl⟩
      have hwT := taken_wf (xs := xs) (P := P) HW.out hlW.wf
      have HWT := Lib.hid hwT
      clear hwT
      go_wp2_with (first
        | (at_builtin; refine wpList_append_row_keep rfl _ _ 24 rfl w.heap.size 3 i0 _ 8 Try.underlying24 hi0 hz0 hz1 hz2 rfl _ os.length os rfl hvW lo hi aD K cD _ rfl hmid ?c1 ?c2 ?c3 ?_; (case c1 => unfold maxLen; omega); (case c2 => omega); (case c3 => exact hbW.size); intro v2 w2 ho2 hb2 hk2; have tR2 : Trio 36 wr.heap.size (.int .i64 P.f) (.int .i64 P.m) (.slice A P.zs.length cc) w2 := (hk2 _ tR.lt (own_ne_trio hvW tR (by decide))).trans tR; obtain ⟨s0, s1, s2⟩ := tR2.cells; have hl2 := hlW.under hb2 hh2)
        | (at_builtin; refine wpList_append_row rfl _ _ 24 rfl w.heap.size 3 i0 _ 8 Try.underlying24 hi0 hz0 hz1 hz2 rfl _ (os.length + K) _ rfl ho2 lo2 hi2 A P.zs.length cc _ rfl hl2 ?c1 ?c2 ?c3 ?_; (case c1 => unfold maxLen; omega); (case c2 => omega); (case c3 => exact (hbW.trans hb2).size); intro v3 w3 ho3 hb3))
      have hos3 : (os ++ (xs.take (P.f + P.m).toNat).drop P.f.toNat) ++ P.zs = os ++ taken xs P := by unfold taken; rw [List.append_assoc]
      rw [hos3] at ho3
      have hl3 := ho3.len
      rw [← hl3] at ho3
      have hbF := (hbW.trans hb2).trans hb3
      have HWO := Lib.hid (show ∀ z ∈ os ++ taken xs P, (Lit.int .i64 z).wf = true from fun z hz => (List.mem_append.1 hz).elim (HO.out z) (HWT.out z))
      clear hos3
      go_wp2
      go_roundw
      case rel => exact ⟨j + 1, os ++ taken xs P, by omega, by go_num, ho3, by omega, HY, HWO, hbF⟩
      case measure => simp [Go.RowKit.intOf]; omega
    · have hd : decide ((j : Int) < (m : Int)) = false := by simp; omega
      have HE := Lib.hid (show j = m by omega)
      go_wp2
      have h1 := HA.out
      rw [HE.out, ← HL.out, List.drop_length] at h1
      simp only [applyL] at h1
      have e1 : R = os := by rw [← HR.out]; unfold applyR; rw [← h1]; rfl
      have e2 : B = true := by rw [← HB.out]; unfold applyB; rw [← h1]; rfl
      subst e1 e2
      go_ret2
      exact ⟨_, _, rfl, hvo, hvc, hvm, hbr⟩
end Go.Proofs.Ytkjglmfnlpapbaa.Pieces

