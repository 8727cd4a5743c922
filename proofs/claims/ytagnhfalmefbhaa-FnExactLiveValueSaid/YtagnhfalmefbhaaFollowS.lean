/-
  Sites that change: the model. Moves that are followed.
  Conditions: the versions lie in memory, with 2^20 numbers at most.
-/
import Derived.Test.YtagnhfalmefbhaaSiteS
import Derived.Test.YtagnhfalmefbhaaHasS
import Derived.Test.YtagnhfalmefbhaaAdrRow
import Derived.Test.YtagnhfalmefbhaaGiven9
import Derived.Test.YtagnhfalmefbhaaFollowMath
import Derived.Lib.AppendZeros
namespace Go.Proofs.Ytagnhfalmefbhaa.Sites
open Go Go.RowKit Go.Proofs.Ytagnhfalmefbhaa.Mem Go.Proofs.Ytagnhfalmefbhaa.Gen Go.Proofs.Ytagnhfalmefbhaa.Adr Go.Proofs.Ytagnhfalmefbhaa.Res

set_option maxHeartbeats 8000000 in
set_option maxRecDepth 100000 in
theorem follow_spec (lo hi : Nat) (w : World) (L : Option Addr) (c : Nat) (l : List TVersion) (h : Lies lo hi w (dVersion l) (.slice L l.length c)) (hh : hi ≤ w.heap.size) (hm : room (dVersion l) ≤ 1048576) (A : TAddress) (hA : WfA A) (t : Int) :
    Calls Try.prog 59 #[.slice L l.length c, .agg #[.int .i64 A.f0, .int .i64 A.f1, .int .i64 A.f2], .int .i64 t] w (Handed w (followed l A t)) := by
  obtain ⟨R, hR⟩ : ∃ R, followed l A t = R := ⟨_, rfl⟩
  rw [hR]
  have HR := Lib.hid (show fol l t 4 [A] (answer l A t) = R from hR)
  have hlenA : ∀ B, (answer l B t).f1.length ≤ 1048576 := fun B => Nat.le_trans (room_answer l B t _ (Nat.le_refl _)) hm
  have HLA := Lib.hid hlenA
  have hwfA : ∀ B, WfA (answer l B t).f2 := fun B => ans_wf h B t
  have HWA := Lib.hid hwfA
  clear hR hlenA hwfA
  obtain ⟨O1, hO1⟩ : ∃ O, O = Obj.cells (adrCells A).toArray 29 (0, 0) := ⟨_, rfl⟩
  obtain ⟨O2, hO2⟩ : ∃ O, O = Obj.cells (resCells ⟨0, [], ⟨0, 0, 0⟩⟩ none 0).toArray 39 (0, 0) := ⟨_, rfl⟩
  obtain ⟨W, hW⟩ : ∃ W, ((w.alloc O1).alloc O2).alloc O1 = W := ⟨_, rfl⟩
  have hB0 : Below w.heap.size w W := by rw [← hW]; repeat' (first | exact Below.refl _ _ | assumption | refine Below.setCell ?_ ?_ _ | refine Below.alloc ?_ ?_ _ | refine Gen.gbelow_drewN ?_ _ | refine Below.drew ?_ | exact Nat.le_refl _ | omega | (dsimp only; omega) | refine Gen.gle_alloc ?_ | refine Gen.gle_set ?_ | refine Gen.gle_drewN ?_ | refine Gen.gle_drew ?_)
  have hs0 : W.heap.size = w.heap.size + 3 := by rw [← hW]; simp only [gsize_alloc]
  have qA : Blk 29 w.heap.size (adrCells A) W := by rw [← hW, hO1]; exact ((Blk.new _ _ w).alloc _).alloc _
  have qR : Blk 39 (w.heap.size + 1) (resCells ⟨0, [], ⟨0, 0, 0⟩⟩ none 0) W := by rw [← hW]; have := (Blk.new 39 (resCells ⟨0, [], ⟨0, 0, 0⟩⟩ none 0) (w.alloc O1)).alloc O1; rw [gsize_alloc] at this; rw [hO2]; exact this
  have qQ : AdrRow w.heap.size W (.slice (some ⟨w.heap.size + 2, 0, none⟩) 1 1) [A] := by rw [← hW, hO1]; have := AdrRow.one A (base := w.heap.size) ((w.alloc O1).alloc O2) (by simp only [gsize_alloc]; omega); simp only [gsize_alloc, hO1] at this; exact this
  have hL := h.under hB0 hh
  have hans := answer_spec lo hi W L c l hL (by omega) hm A t
  obtain ⟨r1, hr1⟩ : ∃ r, answer l A t = r := ⟨_, rfl⟩
  have HR1 := HR.out
  rw [hr1] at hans HR1
  have hex : ∃ B, r1 = answer l B t := ⟨A, hr1.symm⟩
  have HR1 := Lib.hid HR1
  have hW2 : ((w.alloc (.cells #[.int .i64 A.f0, .int .i64 A.f1, .int .i64 A.f2] 29)).alloc (.cells #[.int .i64 0, .slice none 0 0, .int .i64 0, .int .i64 0, .int .i64 0] 39)).alloc (.cells #[.int .i64 A.f0, .int .i64 A.f1, .int .i64 A.f2] 29) = W := by rw [← hW, hO1, hO2]; rfl
  have HW := Lib.hid hW2
  clear hW hO1 hO2 hW2
  have a0 : W.cell? ⟨w.heap.size, 0, none⟩ = some (.int .i64 A.f0) := qA.at rfl
  have a1 : W.cell? ⟨w.heap.size, 1, none⟩ = some (.int .i64 A.f1) := qA.at rfl
  have a2 : W.cell? ⟨w.heap.size, 2, none⟩ = some (.int .i64 A.f2) := qA.at rfl
  go_enter Try.func59, Try.ntmps59
  go_upto_region 2 with fail
  rw [HW.out]
  go_wp2_with fail
  go_at_call 86
  refine hans.mono ?_
  rintro e w1 ⟨x1, y1, rfl, ho1, hb1⟩
  have hz1 := hb1.size
  obtain ⟨W2, hW2⟩ : ∃ W2, w1.alloc (.cells (resCells r1 x1 y1).toArray 39) = W2 := ⟨_, rfl⟩
  have hb2 : Below w1.heap.size w1 W2 := by rw [← hW2]; exact (Below.refl _ _).alloc (Nat.le_refl _) _
  have hbW : Below w.heap.size w W2 := (hB0.trans (hb1.mono (by omega))).trans (hb2.mono (by omega))
  have qO : Blk 39 w1.heap.size (resCells r1 x1 y1) W2 := by rw [← hW2]; exact Blk.new _ _ w1
  have hsz2 : W2.heap.size = w1.heap.size + 1 := by rw [← hW2]; simp only [gsize_alloc]
  have ho2 : OwnD W.heap.size W2.heap.size W2 (ints r1.f1) (.slice x1 r1.f1.length y1) := (OwnD.under ho1 hb2 (Nat.le_refl _)).more (Nat.le_refl _) hb2.size
  have qQ2 := (qQ.below hb1).below hb2
  have qR2 := (qR.below hb1).below hb2
  have hW2' : w1.alloc (.cells #[.int .i64 r1.f0, .slice x1 r1.f1.length y1, .int .i64 r1.f2.f0, .int .i64 r1.f2.f1, .int .i64 r1.f2.f2] 39) = W2 := by rw [← hW2]; rfl
  have HW2 := Lib.hid hW2'
  have hvm : ∀ t, (Value.slice (some ⟨w.heap.size + 2, 0, none⟩) 1 1).ownBlock = some t → t < W.heap.size := fun t e => by simp only [Value.ownBlock] at e; injection e with e; omega
  clear hans a0 a1 a2 hW2 hW2' ho1 qQ qR qA hr1
  go_wp2_with fail
  rw [HW2.out]
  go_loopw [8] (fun v wr => ∃ (Q : List TAddress) (r : TResource) (k : Nat) (a : Option Addr) (d m : Nat), Hid (fol l t k Q r = R) ∧ Q.length + k = 5 ∧ (∃ B, r = answer l B t) ∧ AdrRow w.heap.size wr v Q ∧ (∀ B ∈ Q, WfA B) ∧ (∀ t, v.ownBlock = some t → t < m) ∧ w.heap.size + 3 ≤ m ∧ Blk 39 w1.heap.size (resCells r a d) wr ∧ OwnD m wr.heap.size wr (ints r.f1) (.slice a r.f1.length d) ∧ Blk 39 (w.heap.size + 1) (resCells ⟨0, [], ⟨0, 0, 0⟩⟩ none 0) wr ∧ Below w.heap.size w wr) (fun v _ => 5 - lenOf v)
  case atStart => exact ⟨[A], r1, 4, x1, y1, W.heap.size, HR1, rfl, hex, qQ2, fun B hB => by rw [List.mem_singleton.1 hB]; exact hA, hvm, by omega, qO, ho2, qR2, hbW⟩
  case round =>
    obtain ⟨Q, r, k, a, d, m, hf, hk, hex, hq, hwq, hvm, hwm, qO, ho, qR, hbl⟩ := hrel
    clear qQ2 ho2 qR2 hbW
    obtain ⟨xa, xc, rfl, hq1, hq2⟩ := hq.shape
    have hbs := hbl.size
    have hzw : w1.heap.size < wr.heap.size := qO.lt
    have hlr : r.f1.length ≤ 1048576 := by obtain ⟨B, e⟩ := hex; rw [e]; exact HLA.out B
    have hwr : WfA r.f2 := by obtain ⟨B, e⟩ := hex; rw [e]; exact HWA.out B
    have HEX := Lib.hid hex
    clear hex
    have hHas := has_spec 0 wr.heap.size wr xa xc Q (hq.lies hwq) (Nat.le_refl _) (by omega) r.f2
    obtain ⟨bh, hbh⟩ : ∃ b, hasA Q r.f2 = b := ⟨_, rfl⟩
    rw [hbh] at hHas
    have o0 : wr.cell? ⟨w1.heap.size, 0, none⟩ = some (.int .i64 r.f0) := qO.at rfl
    have o2 : wr.cell? ⟨w1.heap.size, 2, none⟩ = some (.int .i64 r.f2.f0) := qO.at rfl
    have o3 : wr.cell? ⟨w1.heap.size, 3, none⟩ = some (.int .i64 r.f2.f1) := qO.at rfl
    have o4 : wr.cell? ⟨w1.heap.size, 4, none⟩ = some (.int .i64 r.f2.f2) := qO.at rfl
    obtain ⟨n, hn⟩ : ∃ n, Q.length = n := ⟨_, rfl⟩
    rw [hn] at hq1 hHas hvm hk hq
    have HN := Lib.hid hn
    by_cases hmv : moves Q r = true
    · have h3 : r.f0 = 3 := by
        by_cases e : r.f0 = 3
        · exact e
        · rw [moves_kind e] at hmv; cases hmv
      have h4 : n ≤ 4 := by
        by_cases e : Q.length ≤ 4
        · rw [← HN.out]; exact e
        · rw [moves_len e] at hmv; cases hmv
      have hb0 : bh = false := by
        rw [moves_has h3 (by rw [HN.out]; exact h4), hbh] at hmv
        simpa using hmv
      subst hb0
      obtain ⟨k', hk', hf'⟩ := fol_step hmv (by rw [HN.out]; exact hk) hf.out
      rw [HN.out] at hk'
      have HF := Lib.hid hf'
      have e3 : (r.f0 == 3) = true := by simpa using h3
      have d4 : decide ((n : Int) ≤ 4) = true := by simp; omega
      clear hmv hf' hbh hn hf
      rw [HN.out]
      go_wp2_with fail
      go_at_call 87
      refine hHas.mono ?_
      rintro e wH ⟨rfl, hbH⟩
      have qO := qO.below hbH
      have qR := qR.below hbH
      have hq : AdrRow w.heap.size wH (.slice xa n xc) Q := AdrRow.below hq hbH
      have hblH := hbl.trans (hbH.mono hbs)
      have hzH := hbH.size
      clear o0 o2 o3 o4 hHas ho
      have o2 : wH.cell? ⟨w1.heap.size, 2, none⟩ = some (.int .i64 r.f2.f0) := qO.at rfl
      have o3 : wH.cell? ⟨w1.heap.size, 3, none⟩ = some (.int .i64 r.f2.f1) := qO.at rfl
      have o4 : wH.cell? ⟨w1.heap.size, 4, none⟩ = some (.int .i64 r.f2.f2) := qO.at rfl
      have hA1 : Below wH.heap.size wH (wH.alloc (.cells (adrCells r.f2).toArray 29)) := (Below.refl _ _).alloc (Nat.le_refl _) _
      obtain ⟨v', w2, hrun, hq2', hgr⟩ := AdrRow.append (b2 := wH.heap.size) (c := 1) (AdrRow.below hq hA1) (by have := hA1.size; omega) (Blk.new _ _ wH) (by rw [HN.out]; omega) 36
      have hA2 : Below w.heap.size (wH.alloc (.cells (adrCells r.f2).toArray 29)) w2 := (Below.refl _ _).grown hgr (by have := hA1.size; omega) (fun t e => ((AdrRow.below hq hA1).lt e).1)
      have hnO := AdrRow.apart hq qO (by decide)
      have hnR := AdrRow.apart hq qR (by decide)
      have hbl2 := hblH.trans ((hA1.mono (by omega)).trans hA2)
      have hzA := hA1.size
      have qO2 : Blk 39 w1.heap.size (resCells r a d) w2 := (hgr.block _ (by omega) (fun e => hnO _ e.symm rfl)).trans (qO.below hA1)
      have qR2 : Blk 39 (w.heap.size + 1) (resCells ⟨0, [], ⟨0, 0, 0⟩⟩ none 0) w2 := (hgr.block _ (by omega) (fun e => hnR _ e.symm rfl)).trans (qR.below hA1)
      have p2 : w2.cell? ⟨w1.heap.size, 2, none⟩ = some (.int .i64 r.f2.f0) := qO2.at rfl
      have p3 : w2.cell? ⟨w1.heap.size, 3, none⟩ = some (.int .i64 r.f2.f1) := qO2.at rfl
      have p4 : w2.cell? ⟨w1.heap.size, 4, none⟩ = some (.int .i64 r.f2.f2) := qO2.at rfl
      have hz2 := hbl2.size
      have hans := answer_spec lo hi w2 L c l (h.under hbl2 hh) (by omega) hm r.f2 t
      obtain ⟨r2, hr2⟩ : ∃ r2, answer l r.f2 t = r2 := ⟨_, rfl⟩
      have HEX2 := Lib.hid (show ∃ B, r2 = answer l B t from ⟨_, hr2.symm⟩)
      have HF := HF.out
      rw [hr2] at hans HF
      have HF := Lib.hid HF
      have HRUN := Lib.hid hrun
      have hg2 := hgr.size
      clear hrun hgr hr2 hA1 hA2 hq qO qR
      go_wp2_with (at_builtin; refine Lib.wpList_append_run _ rfl _ _ _ _ rfl _ _ rfl rfl _ _ HRUN.out ?_)
      go_at_call 86
      refine hans.mono ?_
      rintro e w3 ⟨x3, y3, rfl, ho3, hb3⟩
      have qO3 := qO2.below hb3
      have qR3 := qR2.below hb3
      have hq3 := hq2'.below hb3
      have hz3 := hb3.size
      have hbl3 := hbl2.trans (hb3.mono hz2)
      have hnO3 := hq3.apart qO3 (by decide)
      have hv3 : ∀ t, v'.ownBlock = some t → t < w2.heap.size := fun t e => (hq2'.lt e).2
      have s0 : w3.cell? ⟨w1.heap.size, 0, none⟩ = some (.int .i64 r.f0) := qO3.at rfl
      have s1 : w3.cell? ⟨w1.heap.size, 1, none⟩ = some (.slice a r.f1.length d) := qO3.at rfl
      have s2 : w3.cell? ⟨w1.heap.size, 2, none⟩ = some (.int .i64 r.f2.f0) := qO3.at rfl
      have s3 : w3.cell? ⟨w1.heap.size, 3, none⟩ = some (.int .i64 r.f2.f1) := qO3.at rfl
      have s4 : w3.cell? ⟨w1.heap.size, 4, none⟩ = some (.int .i64 r.f2.f2) := qO3.at rfl
      have u0 := qO3.free 0
      have u1 := qO3.free 1
      have u2 := qO3.free 2
      have u3 := qO3.free 3
      have u4 := qO3.free 4
      have hZ : Zone w1.heap.size (w1.heap.size + 1) w3 (((((w3.setCell ⟨w1.heap.size, 0, none⟩ (.int .i64 r2.f0)).setCell ⟨w1.heap.size, 1, none⟩ (.slice x3 r2.f1.length y3)).setCell ⟨w1.heap.size, 2, none⟩ (.int .i64 r2.f2.f0)).setCell ⟨w1.heap.size, 3, none⟩ (.int .i64 r2.f2.f1)).setCell ⟨w1.heap.size, 4, none⟩ (.int .i64 r2.f2.f2)) := by
        iterate 5 (refine Zone.setCell ?_ ⟨by omega, by omega⟩ _)
        exact Zone.refl _ _ _
      have hbl4 : Below w.heap.size w (((((w3.setCell ⟨w1.heap.size, 0, none⟩ (.int .i64 r2.f0)).setCell ⟨w1.heap.size, 1, none⟩ (.slice x3 r2.f1.length y3)).setCell ⟨w1.heap.size, 2, none⟩ (.int .i64 r2.f2.f0)).setCell ⟨w1.heap.size, 3, none⟩ (.int .i64 r2.f2.f1)).setCell ⟨w1.heap.size, 4, none⟩ (.int .i64 r2.f2.f2)) := by
        iterate 5 (refine Below.setCell ?_ (by dsimp only; omega) _)
        exact hbl3
      have qO4 := ((((qO3.set 0 (.int .i64 r2.f0)).set 1 (.slice x3 r2.f1.length y3)).set 2 (.int .i64 r2.f2.f0)).set 3 (.int .i64 r2.f2.f1)).set 4 (.int .i64 r2.f2.f2)
      have qR4 := (hZ.block (w.heap.size + 1) (qR3.lt) (Or.inl (by omega))).trans qR3
      have hq4 := hq3.keep fun t e => hZ.block t (hq3.lt e).2 (by have := hnO3 t e; omega)
      have ho4 := (OwnD.zone ho3 hZ (Or.inr (by omega))).more (Nat.le_refl _) hZ.size
      clear o2 o3 o4 p2 p3 p4 qO2 qR2 hq2' qO3 qR3 hq3 hans ho3
      go_wp2
      go_roundw
      case rel =>
        refine ⟨Q ++ [r.f2], r2, k', x3, y3, w2.heap.size, HF, by rw [List.length_append, HN.out]; exact hk', HEX2.out, hq4, fun B hB => ?_, hv3, by omega, qO4, ho4, qR4, hbl4⟩
        rcases List.mem_append.1 hB with hB | hB
        · exact hwq B hB
        · rw [List.mem_singleton.1 hB]; exact hwr
      case measure =>
        obtain ⟨a', c', e, _, _⟩ := hq4.shape
        rw [e]
        simp only [lenOf, List.length_append, List.length_singleton, HN.out]
        omega
    · have hmf : moves Q r = false := by simpa using hmv
      have hR2 := hf.out
      rw [fol_stop hmf] at hR2
      have HR2 := Lib.hid hR2
      clear hR2 hf hmv
      rw [HN.out]
      have hcase : (r.f0 == 3) = false ∨ ((r.f0 == 3) = true ∧ decide ((n : Int) ≤ 4) = false) ∨ ((r.f0 == 3) = true ∧ decide ((n : Int) ≤ 4) = true ∧ bh = true) := by
        by_cases e : r.f0 = 3
        · by_cases e4 : n ≤ 4
          · rw [moves_has e (by rw [HN.out]; exact e4), hbh] at hmf
            exact .inr (.inr ⟨by simpa using e, by simp; omega, by simpa using hmf⟩)
          · exact .inr (.inl ⟨by simpa using e, by simp; omega⟩)
        · exact .inl (by simpa using e)
      clear hmf hbh hn
      rcases hcase with e3 | ⟨e3, d4⟩ | ⟨e3, d4, rfl⟩
      · clear o0 o2 o3 o4 hHas
        have o0 : wr.cell? ⟨w1.heap.size, 0, none⟩ = some (.int .i64 r.f0) := qO.at rfl
        have o1 : wr.cell? ⟨w1.heap.size, 1, none⟩ = some (.slice a r.f1.length d) := qO.at rfl
        have o2 : wr.cell? ⟨w1.heap.size, 2, none⟩ = some (.int .i64 r.f2.f0) := qO.at rfl
        have o3 : wr.cell? ⟨w1.heap.size, 3, none⟩ = some (.int .i64 r.f2.f1) := qO.at rfl
        have o4 : wr.cell? ⟨w1.heap.size, 4, none⟩ = some (.int .i64 r.f2.f2) := qO.at rfl
        have r0 : wr.cell? ⟨w.heap.size + 1, 0, none⟩ = some (.int .i64 0) := qR.at rfl
        have r1 : wr.cell? ⟨w.heap.size + 1, 1, none⟩ = some (.slice none 0 0) := qR.at rfl
        have r2 : wr.cell? ⟨w.heap.size + 1, 2, none⟩ = some (.int .i64 0) := qR.at rfl
        have r3 : wr.cell? ⟨w.heap.size + 1, 3, none⟩ = some (.int .i64 0) := qR.at rfl
        have r4 : wr.cell? ⟨w.heap.size + 1, 4, none⟩ = some (.int .i64 0) := qR.at rfl
        have p0 := qR.free 0
        have p1 := qR.free 1
        have p2 := qR.free 2
        have p3 := qR.free 3
        have p4 := qR.free 4
        have hnR := AdrRow.apart hq qR (by decide)
        have hZ : Zone (w.heap.size + 1) (w.heap.size + 2) wr (((((wr.setCell ⟨w.heap.size + 1, 0, none⟩ (.int .i64 r.f0)).setCell ⟨w.heap.size + 1, 1, none⟩ (.slice a r.f1.length d)).setCell ⟨w.heap.size + 1, 2, none⟩ (.int .i64 r.f2.f0)).setCell ⟨w.heap.size + 1, 3, none⟩ (.int .i64 r.f2.f1)).setCell ⟨w.heap.size + 1, 4, none⟩ (.int .i64 r.f2.f2)) := by
          iterate 5 (refine Zone.setCell ?_ ⟨by omega, by omega⟩ _)
          exact Zone.refl _ _ _
        have hbF : Below w.heap.size w (((((wr.setCell ⟨w.heap.size + 1, 0, none⟩ (.int .i64 r.f0)).setCell ⟨w.heap.size + 1, 1, none⟩ (.slice a r.f1.length d)).setCell ⟨w.heap.size + 1, 2, none⟩ (.int .i64 r.f2.f0)).setCell ⟨w.heap.size + 1, 3, none⟩ (.int .i64 r.f2.f1)).setCell ⟨w.heap.size + 1, 4, none⟩ (.int .i64 r.f2.f2)) := by
          iterate 5 (refine Below.setCell ?_ (by dsimp only; omega) _)
          exact hbl
        have qF := ((((qR.set 0 (.int .i64 r.f0)).set 1 (.slice a r.f1.length d)).set 2 (.int .i64 r.f2.f0)).set 3 (.int .i64 r.f2.f1)).set 4 (.int .i64 r.f2.f2)
        have hqF := AdrRow.keep hq fun t e => hZ.block t (AdrRow.lt hq e).2 (by have := hnR t e; omega)
        have hoF := OwnD.zone ho hZ (Or.inr (by omega))
        have g0 := qF.at (x := 0) rfl
        have g1 := qF.at (x := 1) rfl
        have g2 := qF.at (x := 2) rfl
        have g3 := qF.at (x := 3) rfl
        have g4 := qF.at (x := 4) rfl
        have hzF := hZ.size
        clear qO qR hq ho qF
        go_wp2
        refine bodyPost_ret (v := .tuple #[.agg #[.int .i64 r.f0, .slice a r.f1.length d, .int .i64 r.f2.f0, .int .i64 r.f2.f1, .int .i64 r.f2.f2], .slice xa n xc]) (by simp [results, Try.results59, go_sem, g0, g1, g2, g3, g4]) rfl ?_
        obtain rfl : n = Q.length := HN.out.symm
        rw [← HR2.out]
        refine ⟨a, d, Span m wr.heap.size, xa, xc, _, rfl, hoF, hqF.owns hwq, fun t ht => ?_, fun t ht => ⟨(hqF.lt ht).1, (hqF.lt ht).2⟩, fun t ht e => ?_, hbF⟩
        · have := ht.1; have := ht.2; omega
        · have := hvm t e; have := ht.1; omega
      · clear o0 o2 o3 o4 hHas
        have o0 : wr.cell? ⟨w1.heap.size, 0, none⟩ = some (.int .i64 r.f0) := qO.at rfl
        have o1 : wr.cell? ⟨w1.heap.size, 1, none⟩ = some (.slice a r.f1.length d) := qO.at rfl
        have o2 : wr.cell? ⟨w1.heap.size, 2, none⟩ = some (.int .i64 r.f2.f0) := qO.at rfl
        have o3 : wr.cell? ⟨w1.heap.size, 3, none⟩ = some (.int .i64 r.f2.f1) := qO.at rfl
        have o4 : wr.cell? ⟨w1.heap.size, 4, none⟩ = some (.int .i64 r.f2.f2) := qO.at rfl
        have r0 : wr.cell? ⟨w.heap.size + 1, 0, none⟩ = some (.int .i64 0) := qR.at rfl
        have r1 : wr.cell? ⟨w.heap.size + 1, 1, none⟩ = some (.slice none 0 0) := qR.at rfl
        have r2 : wr.cell? ⟨w.heap.size + 1, 2, none⟩ = some (.int .i64 0) := qR.at rfl
        have r3 : wr.cell? ⟨w.heap.size + 1, 3, none⟩ = some (.int .i64 0) := qR.at rfl
        have r4 : wr.cell? ⟨w.heap.size + 1, 4, none⟩ = some (.int .i64 0) := qR.at rfl
        have p0 := qR.free 0
        have p1 := qR.free 1
        have p2 := qR.free 2
        have p3 := qR.free 3
        have p4 := qR.free 4
        have hnR := AdrRow.apart hq qR (by decide)
        have hZ : Zone (w.heap.size + 1) (w.heap.size + 2) wr (((((wr.setCell ⟨w.heap.size + 1, 0, none⟩ (.int .i64 r.f0)).setCell ⟨w.heap.size + 1, 1, none⟩ (.slice a r.f1.length d)).setCell ⟨w.heap.size + 1, 2, none⟩ (.int .i64 r.f2.f0)).setCell ⟨w.heap.size + 1, 3, none⟩ (.int .i64 r.f2.f1)).setCell ⟨w.heap.size + 1, 4, none⟩ (.int .i64 r.f2.f2)) := by
          iterate 5 (refine Zone.setCell ?_ ⟨by omega, by omega⟩ _)
          exact Zone.refl _ _ _
        have hbF : Below w.heap.size w (((((wr.setCell ⟨w.heap.size + 1, 0, none⟩ (.int .i64 r.f0)).setCell ⟨w.heap.size + 1, 1, none⟩ (.slice a r.f1.length d)).setCell ⟨w.heap.size + 1, 2, none⟩ (.int .i64 r.f2.f0)).setCell ⟨w.heap.size + 1, 3, none⟩ (.int .i64 r.f2.f1)).setCell ⟨w.heap.size + 1, 4, none⟩ (.int .i64 r.f2.f2)) := by
          iterate 5 (refine Below.setCell ?_ (by dsimp only; omega) _)
          exact hbl
        have qF := ((((qR.set 0 (.int .i64 r.f0)).set 1 (.slice a r.f1.length d)).set 2 (.int .i64 r.f2.f0)).set 3 (.int .i64 r.f2.f1)).set 4 (.int .i64 r.f2.f2)
        have hqF := AdrRow.keep hq fun t e => hZ.block t (AdrRow.lt hq e).2 (by have := hnR t e; omega)
        have hoF := OwnD.zone ho hZ (Or.inr (by omega))
        have g0 := qF.at (x := 0) rfl
        have g1 := qF.at (x := 1) rfl
        have g2 := qF.at (x := 2) rfl
        have g3 := qF.at (x := 3) rfl
        have g4 := qF.at (x := 4) rfl
        have hzF := hZ.size
        clear qO qR hq ho qF
        go_wp2
        refine bodyPost_ret (v := .tuple #[.agg #[.int .i64 r.f0, .slice a r.f1.length d, .int .i64 r.f2.f0, .int .i64 r.f2.f1, .int .i64 r.f2.f2], .slice xa n xc]) (by simp [results, Try.results59, go_sem, g0, g1, g2, g3, g4]) rfl ?_
        obtain rfl : n = Q.length := HN.out.symm
        rw [← HR2.out]
        refine ⟨a, d, Span m wr.heap.size, xa, xc, _, rfl, hoF, hqF.owns hwq, fun t ht => ?_, fun t ht => ⟨(hqF.lt ht).1, (hqF.lt ht).2⟩, fun t ht e => ?_, hbF⟩
        · have := ht.1; have := ht.2; omega
        · have := hvm t e; have := ht.1; omega
      · go_wp2_with fail
        go_at_call 87
        refine hHas.mono ?_
        rintro e wH ⟨rfl, hbH⟩
        have qO := qO.below hbH
        have qR := qR.below hbH
        have hq : AdrRow w.heap.size wH (.slice xa n xc) Q := AdrRow.below hq hbH
        have ho := (OwnD.under ho hbH (Nat.le_refl _)).more (Nat.le_refl _) hbH.size
        have hbl := hbl.trans (hbH.mono hbs)
        have hzH := hbH.size
        clear o0 o2 o3 o4 hHas
        have o0 : wH.cell? ⟨w1.heap.size, 0, none⟩ = some (.int .i64 r.f0) := qO.at rfl
        have o1 : wH.cell? ⟨w1.heap.size, 1, none⟩ = some (.slice a r.f1.length d) := qO.at rfl
        have o2 : wH.cell? ⟨w1.heap.size, 2, none⟩ = some (.int .i64 r.f2.f0) := qO.at rfl
        have o3 : wH.cell? ⟨w1.heap.size, 3, none⟩ = some (.int .i64 r.f2.f1) := qO.at rfl
        have o4 : wH.cell? ⟨w1.heap.size, 4, none⟩ = some (.int .i64 r.f2.f2) := qO.at rfl
        have r0 : wH.cell? ⟨w.heap.size + 1, 0, none⟩ = some (.int .i64 0) := qR.at rfl
        have r1 : wH.cell? ⟨w.heap.size + 1, 1, none⟩ = some (.slice none 0 0) := qR.at rfl
        have r2 : wH.cell? ⟨w.heap.size + 1, 2, none⟩ = some (.int .i64 0) := qR.at rfl
        have r3 : wH.cell? ⟨w.heap.size + 1, 3, none⟩ = some (.int .i64 0) := qR.at rfl
        have r4 : wH.cell? ⟨w.heap.size + 1, 4, none⟩ = some (.int .i64 0) := qR.at rfl
        have p0 := qR.free 0
        have p1 := qR.free 1
        have p2 := qR.free 2
        have p3 := qR.free 3
        have p4 := qR.free 4
        have hnR := AdrRow.apart hq qR (by decide)
        have hZ : Zone (w.heap.size + 1) (w.heap.size + 2) wH (((((wH.setCell ⟨w.heap.size + 1, 0, none⟩ (.int .i64 r.f0)).setCell ⟨w.heap.size + 1, 1, none⟩ (.slice a r.f1.length d)).setCell ⟨w.heap.size + 1, 2, none⟩ (.int .i64 r.f2.f0)).setCell ⟨w.heap.size + 1, 3, none⟩ (.int .i64 r.f2.f1)).setCell ⟨w.heap.size + 1, 4, none⟩ (.int .i64 r.f2.f2)) := by
          iterate 5 (refine Zone.setCell ?_ ⟨by omega, by omega⟩ _)
          exact Zone.refl _ _ _
        have hbF : Below w.heap.size w (((((wH.setCell ⟨w.heap.size + 1, 0, none⟩ (.int .i64 r.f0)).setCell ⟨w.heap.size + 1, 1, none⟩ (.slice a r.f1.length d)).setCell ⟨w.heap.size + 1, 2, none⟩ (.int .i64 r.f2.f0)).setCell ⟨w.heap.size + 1, 3, none⟩ (.int .i64 r.f2.f1)).setCell ⟨w.heap.size + 1, 4, none⟩ (.int .i64 r.f2.f2)) := by
          iterate 5 (refine Below.setCell ?_ (by dsimp only; omega) _)
          exact hbl
        have qF := ((((qR.set 0 (.int .i64 r.f0)).set 1 (.slice a r.f1.length d)).set 2 (.int .i64 r.f2.f0)).set 3 (.int .i64 r.f2.f1)).set 4 (.int .i64 r.f2.f2)
        have hqF := AdrRow.keep hq fun t e => hZ.block t (AdrRow.lt hq e).2 (by have := hnR t e; omega)
        have hoF := OwnD.zone ho hZ (Or.inr (by omega))
        have g0 := qF.at (x := 0) rfl
        have g1 := qF.at (x := 1) rfl
        have g2 := qF.at (x := 2) rfl
        have g3 := qF.at (x := 3) rfl
        have g4 := qF.at (x := 4) rfl
        have hzF := hZ.size
        clear qO qR hq ho qF
        go_wp2
        refine bodyPost_ret (v := .tuple #[.agg #[.int .i64 r.f0, .slice a r.f1.length d, .int .i64 r.f2.f0, .int .i64 r.f2.f1, .int .i64 r.f2.f2], .slice xa n xc]) (by simp [results, Try.results59, go_sem, g0, g1, g2, g3, g4]) rfl ?_
        obtain rfl : n = Q.length := HN.out.symm
        rw [← HR2.out]
        refine ⟨a, d, Span m wH.heap.size, xa, xc, _, rfl, hoF, hqF.owns hwq, fun t ht => ?_, fun t ht => ⟨(hqF.lt ht).1, (hqF.lt ht).2⟩, fun t ht e => ?_, hbF⟩
        · have := ht.1; have := ht.2; omega
        · have := hvm t e; have := ht.1; omega
end Go.Proofs.Ytagnhfalmefbhaa.Sites
