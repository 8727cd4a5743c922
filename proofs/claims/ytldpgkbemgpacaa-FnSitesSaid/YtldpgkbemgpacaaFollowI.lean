/-
  Sites that change: the program. Moves that are followed.
  Conditions: the versions lie in memory, with 2^20 numbers at most.
-/
import Derived.Test.YtldpgkbemgpacaaAsk
import Derived.Test.YtldpgkbemgpacaaSiteI
import Derived.Test.YtldpgkbemgpacaaGiven9
namespace Go.Proofs.Ytldpgkbemgpacaa.Sites
open Go Go.RowKit Go.Proofs.Ytldpgkbemgpacaa.Mem Go.Proofs.Ytldpgkbemgpacaa.Gen Go.Proofs.Ytldpgkbemgpacaa.Adr Go.Proofs.Ytldpgkbemgpacaa.Res

def askedOf (w : World) (b : Nat) : Nat := lenOf ((w.cell? ⟨b, 2, none⟩).getD (.bool false))
theorem askedOf_of {w : World} {b n c : Nat} {a : Option Addr} (h : w.cell? ⟨b, 2, none⟩ = some (.slice a n c)) : askedOf w b = n := by
  unfold askedOf
  rw [h]
  rfl

set_option maxHeartbeats 8000000 in
set_option maxRecDepth 100000 in
theorem follow_impl (lo hi : Nat) (w : World) (L : Option Addr) (c : Nat) (l : List TVersion) (h : Lies lo hi w (dVersion l) (.slice L l.length c)) (hh : hi ≤ w.heap.size) (hm : room (dVersion l) ≤ 1048576) (A : TAddress) (hA : WfA A) (t : Int) :
    Calls Try.prog 16 #[.slice L l.length c, .agg #[.int .i64 A.f0, .int .i64 A.f1, .int .i64 A.f2], .int .i64 t] w (Handed w (followed l A t)) := by
  obtain ⟨R, hR⟩ : ∃ R, followed l A t = R := ⟨_, rfl⟩
  rw [hR]
  have HR := Lib.hid (show fol l t 4 [A] (answer l A t) = R from hR)
  have hwfA : ∀ B, WfA (answer l B t).f2 := fun B => ans_wf h B t
  have HWA := Lib.hid hwfA
  clear hR hwfA
  obtain ⟨W, hW⟩ : ∃ W, (w.alloc (.cells #[.int .i64 A.f0, .int .i64 A.f1, .int .i64 A.f2] 26)).alloc (.cells #[.int .i64 0, .slice none 0 0, .int .i64 0, .int .i64 0, .int .i64 0] 31) = W := ⟨_, rfl⟩
  have hB0 : Below w.heap.size w W := by rw [← hW]; exact ((Below.refl _ _).alloc (Nat.le_refl _) _).alloc (by rw [gsize_alloc]; omega) _
  have hs0 : W.heap.size = w.heap.size + 2 := by rw [← hW]; simp only [gsize_alloc]
  have qA : Blk 26 w.heap.size (adrCells A) W := by rw [← hW]; exact (Blk.new _ (adrCells A) w).alloc _
  have qR : Blk 31 (w.heap.size + 1) (resCells ⟨0, [], ⟨0, 0, 0⟩⟩ none 0) W := by rw [← hW]; have := Blk.new 31 (resCells ⟨0, [], ⟨0, 0, 0⟩⟩ none 0) (w.alloc (.cells #[.int .i64 A.f0, .int .i64 A.f1, .int .i64 A.f2] 26)); rw [gsize_alloc] at this; exact this
  have hP := pasts_of lo hi W L c l (h.under hB0 hh) (by omega) hm
  have HW := Lib.hid hW
  clear hW
  go_enter Try.func16, Try.ntmps16
  go_upto_region 1 with fail
  rw [HW.out]
  go_wp2_with fail
  go_at_call 41
  refine hP.mono ?_
  rintro e w1 ⟨F, rfl, hp1, hg1, hb1⟩
  have hz1 := hb1.size
  have hmb := hp1.lt
  have hbw1 : Below w.heap.size w w1 := hB0.trans (hb1.mono (by omega))
  have qA1 := qA.below hb1
  have qR1 := qR.below hb1
  obtain ⟨mb, hmbe⟩ : ∃ mb, W.heap.size = mb := ⟨_, rfl⟩
  have hg1' := hg1
  rw [hmbe] at hp1 hg1 ⊢
  obtain ⟨W2, hW2⟩ : ∃ W2, w1.alloc (.cells #[.map (some mb), .int .i64 t, .slice none 0 0, .int .i64 0, .slice none 0 0, .int .i64 0, .int .i64 0, .int .i64 0] 72) = W2 := ⟨_, rfl⟩
  have hb2 : Below w1.heap.size w1 W2 := by rw [← hW2]; exact (Below.refl _ _).alloc (Nat.le_refl _) _
  have qI : Blk 72 w1.heap.size (inqCells mb t (.slice none 0 0) ⟨0, [], ⟨0, 0, 0⟩⟩ none 0) W2 := by rw [← hW2]; exact Blk.new _ (inqCells mb t (.slice none 0 0) ⟨0, [], ⟨0, 0, 0⟩⟩ none 0) w1
  have qA2 := qA1.below hb2
  have a0 : W2.cell? ⟨w.heap.size, 0, none⟩ = some (.int .i64 A.f0) := qA2.at rfl
  have a1 : W2.cell? ⟨w.heap.size, 1, none⟩ = some (.int .i64 A.f1) := qA2.at rfl
  have a2 : W2.cell? ⟨w.heap.size, 2, none⟩ = some (.int .i64 A.f2) := qA2.at rfl
  have hAsk := fun (w' : World) (hbl : Below w1.heap.size w1 w') => ask_impl lo hi mb mb l.length w1 w' F l hp1 hg1 (by omega) hm hbl w1.heap.size (Nat.le_refl _) t
  have hA1 := hAsk W2 hb2 _ [] ⟨0, [], ⟨0, 0, 0⟩⟩ none 0 qI (AdrRow.void _ _) (by simp) A hA
  obtain ⟨ra, hra⟩ : ∃ r, answer l A t = r := ⟨_, rfl⟩
  have HR1 := HR.out
  rw [hra] at hA1 HR1
  have HEX := Lib.hid (show ∃ B, ra = answer l B t from ⟨A, hra.symm⟩)
  have HR1 := Lib.hid HR1
  have HW2 := Lib.hid hW2
  have HS0 := Lib.hid hs0
  have hz1' : w.heap.size + 2 ≤ w1.heap.size := by omega
  clear hW2 hra hmbe hs0 hg1' hP hp1 hg1 qA qR qA1 qA2
  go_upto_region 2 with fail
  rw [HW2.out]
  go_wp2_with fail
  go_at_call 48
  refine hA1.mono ?_
  rintro e w3 ⟨v3, x3, y3, m3, rfl, qI3, hq3, hv3, hbm3, ho3, hbl3⟩
  clear hA1 a0 a1 a2 qI
  go_wp2_with fail
  go_loopw [] (fun wr => ∃ (Q : List TAddress) (r : TResource) (k : Nat) (v : Value) (a : Option Addr) (d m : Nat), Hid (fol l t k Q r = R) ∧ Q.length + k = 5 ∧ 1 ≤ Q.length ∧ (∃ B, r = answer l B t) ∧ AdrRow w1.heap.size wr v Q ∧ (∀ B ∈ Q, WfA B) ∧ (∀ t, v.ownBlock = some t → t < m) ∧ w1.heap.size < m ∧ Blk 72 w1.heap.size (inqCells mb t v r a d) wr ∧ OwnD m wr.heap.size wr (ints r.f1) (.slice a r.f1.length d) ∧ Below w1.heap.size w1 wr) (fun wr => 5 - askedOf wr w1.heap.size)
  case atStart => exact ⟨[A], ra, 4, v3, x3, y3, m3, HR1, rfl, Nat.le_refl _, HEX.out, hq3, fun B hB => by rw [List.mem_singleton.1 hB]; exact hA, hv3, hbm3, qI3, ho3, hbl3⟩
  case round =>
    obtain ⟨Q, r, k, v, a, d, m, hf, hk, hn1, hex, hq, hwq, hvm, hbm, qI, ho, hbl⟩ := hrel
    clear qI3 hq3 hv3 hbm3 ho3 hbl3
    obtain ⟨xa, xc, rfl, hq1, hq2⟩ := hq.shape
    have hbs := hbl.size
    have hwr : WfA r.f2 := by obtain ⟨B, e⟩ := hex; rw [e]; exact HWA.out B
    have HEX := Lib.hid hex
    clear hex
    have hCan := can_follow wr w1.heap.size mb t xa xc Q r a d qI (hq.lies hwq) (by omega) hn1
    obtain ⟨n, hn⟩ : ∃ n, Q.length = n := ⟨_, rfl⟩
    obtain ⟨M, hM⟩ : ∃ M, moves Q r = M := ⟨_, rfl⟩
    rw [hM] at hCan
    rw [hn] at hq1 hvm hk hq qI hn1
    have HN := Lib.hid hn
    have hmeas : askedOf wr w1.heap.size = n := askedOf_of (qI.at rfl)
    cases M with
    | true =>
      obtain ⟨k', hk', hf'⟩ := fol_step hM (by rw [HN.out]; exact hk) hf.out
      rw [HN.out] at hk'
      have HF := Lib.hid hf'
      clear hf' hM hn hf
      go_wp2_with fail
      go_at_call 49
      refine hCan.mono ?_
      rintro e wH ⟨rfl, hbH⟩
      have qI := qI.below hbH
      have hq : AdrRow w1.heap.size wH (.slice xa n xc) Q := AdrRow.below hq hbH
      have hblH := hbl.trans (hbH.mono hbs)
      have o2 : wH.cell? ⟨w1.heap.size, 5, none⟩ = some (.int .i64 r.f2.f0) := qI.at rfl
      have o3 : wH.cell? ⟨w1.heap.size, 6, none⟩ = some (.int .i64 r.f2.f1) := qI.at rfl
      have o4 : wH.cell? ⟨w1.heap.size, 7, none⟩ = some (.int .i64 r.f2.f2) := qI.at rfl
      have hA1 := hAsk wH hblH _ Q r a d qI hq (by rw [HN.out]; omega) r.f2 hwr
      obtain ⟨r2, hr2⟩ : ∃ r2, answer l r.f2 t = r2 := ⟨_, rfl⟩
      have HEX2 := Lib.hid (show ∃ B, r2 = answer l B t from ⟨_, hr2.symm⟩)
      have HF := HF.out
      rw [hr2] at hA1 HF
      have HF := Lib.hid HF
      clear hr2 hCan hAsk ho
      go_wp2_with fail
      go_at_call 48
      refine hA1.mono ?_
      rintro e w5 ⟨v5, x5, y5, m5, rfl, qI5, hq5, hv5, hbm5, ho5, hbl5⟩
      clear o2 o3 o4 qI hq hA1
      obtain ⟨xa5, xc5, e5, _, _⟩ := hq5.shape
      subst e5
      have hmeas5 : askedOf w5 w1.heap.size = (Q ++ [r.f2]).length := askedOf_of (qI5.at rfl)
      go_wp2_with fail
      go_roundw
      case rel =>
        refine ⟨Q ++ [r.f2], r2, k', _, x5, y5, m5, HF, by rw [List.length_append, HN.out]; exact hk', by simp, HEX2.out, hq5, fun B hB => ?_, hv5, hbm5, qI5, ho5, hbl5⟩
        rcases List.mem_append.1 hB with hB | hB
        · exact hwq B hB
        · rw [List.mem_singleton.1 hB]; exact hwr
      case measure =>
        rw [hmeas, hmeas5, List.length_append, HN.out, List.length_singleton]
        omega
    | false =>
      have hR2 := hf.out
      rw [fol_stop hM] at hR2
      have HR2 := Lib.hid hR2
      clear hR2 hf hM hAsk hn
      go_wp2_with fail
      go_at_call 49
      refine hCan.mono ?_
      rintro e wH ⟨rfl, hbH⟩
      have qI := qI.below hbH
      have hq : AdrRow w1.heap.size wH (.slice xa n xc) Q := AdrRow.below hq hbH
      have ho := (OwnD.under ho hbH (Nat.le_refl _)).more (Nat.le_refl _) hbH.size
      have hbl := hbl.trans (hbH.mono hbs)
      have hzH := hbH.size
      have qR : Blk 31 (w.heap.size + 1) (resCells ⟨0, [], ⟨0, 0, 0⟩⟩ none 0) wH := (hbl.block _ (by omega)).trans qR1
      clear hCan hmeas
      go_upto_region 5 with fail
      have o3 : wH.cell? ⟨w1.heap.size, 3, none⟩ = some (.int .i64 r.f0) := qI.at rfl
      have o4 : wH.cell? ⟨w1.heap.size, 4, none⟩ = some (.slice a r.f1.length d) := qI.at rfl
      have o5 : wH.cell? ⟨w1.heap.size, 5, none⟩ = some (.int .i64 r.f2.f0) := qI.at rfl
      have o6 : wH.cell? ⟨w1.heap.size, 6, none⟩ = some (.int .i64 r.f2.f1) := qI.at rfl
      have o7 : wH.cell? ⟨w1.heap.size, 7, none⟩ = some (.int .i64 r.f2.f2) := qI.at rfl
      have o2 : wH.cell? ⟨w1.heap.size, 2, none⟩ = some (.slice xa n xc) := qI.at rfl
      have r0 : wH.cell? ⟨w.heap.size + 1, 0, none⟩ = some (.int .i64 0) := qR.at rfl
      have r1 : wH.cell? ⟨w.heap.size + 1, 1, none⟩ = some (.slice none 0 0) := qR.at rfl
      have r2 : wH.cell? ⟨w.heap.size + 1, 2, none⟩ = some (.int .i64 0) := qR.at rfl
      have r3 : wH.cell? ⟨w.heap.size + 1, 3, none⟩ = some (.int .i64 0) := qR.at rfl
      have r4 : wH.cell? ⟨w.heap.size + 1, 4, none⟩ = some (.int .i64 0) := qR.at rfl
      have p0 := qR.free 0
      have p1 := qR.free 1
      have p2 := qR.free 2
      have p3 := qR.free 3
      have p4 := qR.free 4
      have hZ : Zone (w.heap.size + 1) (w.heap.size + 2) wH (((((wH.setCell ⟨w.heap.size + 1, 0, none⟩ (.int .i64 r.f0)).setCell ⟨w.heap.size + 1, 1, none⟩ (.slice a r.f1.length d)).setCell ⟨w.heap.size + 1, 2, none⟩ (.int .i64 r.f2.f0)).setCell ⟨w.heap.size + 1, 3, none⟩ (.int .i64 r.f2.f1)).setCell ⟨w.heap.size + 1, 4, none⟩ (.int .i64 r.f2.f2)) := by
        iterate 5 (refine Zone.setCell ?_ ⟨by omega, by omega⟩ _)
        exact Zone.refl _ _ _
      have hbF : Below w.heap.size w (((((wH.setCell ⟨w.heap.size + 1, 0, none⟩ (.int .i64 r.f0)).setCell ⟨w.heap.size + 1, 1, none⟩ (.slice a r.f1.length d)).setCell ⟨w.heap.size + 1, 2, none⟩ (.int .i64 r.f2.f0)).setCell ⟨w.heap.size + 1, 3, none⟩ (.int .i64 r.f2.f1)).setCell ⟨w.heap.size + 1, 4, none⟩ (.int .i64 r.f2.f2)) := by
        iterate 5 (refine Below.setCell ?_ (by dsimp only; omega) _)
        exact hbw1.trans (hbl.mono (by omega))
      have qF := ((((qR.set 0 (.int .i64 r.f0)).set 1 (.slice a r.f1.length d)).set 2 (.int .i64 r.f2.f0)).set 3 (.int .i64 r.f2.f1)).set 4 (.int .i64 r.f2.f2)
      have hqF := AdrRow.keep hq fun t e => hZ.block t (AdrRow.lt hq e).2 (by have := (AdrRow.lt hq e).1; omega)
      have hoF := OwnD.zone ho hZ (Or.inr (by omega))
      have g0 := qF.at (x := 0) rfl
      have g1 := qF.at (x := 1) rfl
      have g2 := qF.at (x := 2) rfl
      have g3 := qF.at (x := 3) rfl
      have g4 := qF.at (x := 4) rfl
      have hzF := hZ.size
      go_region
      all_goals
        go_wp2
        refine bodyPost_ret (v := .tuple #[.agg #[.int .i64 r.f0, .slice a r.f1.length d, .int .i64 r.f2.f0, .int .i64 r.f2.f1, .int .i64 r.f2.f2], .slice xa n xc]) (by simp [results, Try.results16, go_sem, g0, g1, g2, g3, g4]) rfl ?_
        obtain rfl : n = Q.length := HN.out.symm
        rw [← HR2.out]
        refine ⟨a, d, Span m wH.heap.size, xa, xc, _, rfl, Owns.drewN hoF 1, (hqF.owns hwq).drewN 1, fun t ht => ?_, fun t ht => ⟨by have := (hqF.lt ht).1; omega, (hqF.lt ht).2⟩, fun t ht e => ?_, gbelow_drewN hbF 1⟩
        · refine ⟨by have := ht.1; omega, ?_⟩
          have := ht.2
          show t < (((((wH.setCell ⟨w.heap.size + 1, 0, none⟩ (.int .i64 r.f0)).setCell ⟨w.heap.size + 1, 1, none⟩ (.slice a r.f1.length d)).setCell ⟨w.heap.size + 1, 2, none⟩ (.int .i64 r.f2.f0)).setCell ⟨w.heap.size + 1, 3, none⟩ (.int .i64 r.f2.f1)).setCell ⟨w.heap.size + 1, 4, none⟩ (.int .i64 r.f2.f2)).heap.size
          omega
        · have := hvm t e; have := ht.1; omega
end Go.Proofs.Ytldpgkbemgpacaa.Sites
