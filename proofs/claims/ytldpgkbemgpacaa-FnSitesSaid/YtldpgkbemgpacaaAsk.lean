/-
  The program's inquiry: an address is asked.
  Conditions: the inquiry, its map and what was asked lie in memory.
-/
import Derived.Test.YtldpgkbemgpacaaAnswerI
import Derived.Test.YtldpgkbemgpacaaCanFollow
import Derived.Test.YtldpgkbemgpacaaAdrRow
import Derived.Deep.CutBlock
import Derived.Deep.RegionLaw
namespace Go.Proofs.Ytldpgkbemgpacaa.Sites
open Go Go.RowKit Go.Proofs.Ytldpgkbemgpacaa.Mem Go.Proofs.Ytldpgkbemgpacaa.Gen Go.Proofs.Ytldpgkbemgpacaa.Adr Go.Proofs.Ytldpgkbemgpacaa.Res

theorem step_append_run {P : Program} {ops : Array Oper} {o : Oper} {a : Act} {w : World} {K : Act → World → Prop} {Q : Exit → Act → World → Prop} {E : Prop} (hgd : o.guard = none) (s x : Operand) (t : TypeId)
    (ho : o.op = .call { callee := .builtin .append, args := #[s, x], argTypes := #[t, t] }) {v u v' : Value} {w' : World} (hs : a.eval s = v) (hx : a.eval x = u) (hr : (Builtin.append_ #[t, t] o.type #[v, u]).run P w = .ok v' w') (hK : K (a.put o.dst v') w') :
    if Region.wanted o (yielded ops a.tmps) = true then Oper.wp P o a w K Q else E := by
  have hw : Region.wanted o (yielded ops a.tmps) = true := by simp [Region.wanted, hgd]
  rw [if_pos hw]
  unfold Oper.wp execOp
  simp only [ho, resolve, invoke, builtin, Sem.run_bind, Sem.run_pure, Result.andThen_ok, List.map_toArray, List.map_cons, List.map_nil, hs, hx, hr]
  exact hK

set_option maxHeartbeats 8000000 in
set_option maxRecDepth 100000 in
theorem ask_impl (lo hi B0 mb nn : Nat) (w1 w : World) (F : TAddress → Value) (l : List TVersion) (hp : Pasts mb nn w1 F) (hg : Groups mb B0 lo hi w1 F l l.length) (hhi : hi ≤ w1.heap.size) (hm : room (dVersion l) ≤ 1048576) (hbl : Below w1.heap.size w1 w)
    (b : Nat) (hb : w1.heap.size ≤ b) (t : Int) (v : Value) (Q : List TAddress) (r : TResource) (a : Option Addr) (d : Nat) (qI : Blk 72 b (inqCells mb t v r a d) w) (hq : AdrRow w1.heap.size w v Q) (hQ : Q.length ≤ 1000) (A : TAddress) (hA : WfA A) :
    Calls Try.prog 48 #[.pointer (some ⟨b, 0, none⟩), .agg #[.int .i64 A.f0, .int .i64 A.f1, .int .i64 A.f2]] w fun e w' => ∃ (v' : Value) (a' : Option Addr) (d' m : Nat), e = .returned (.tuple #[]) ∧ Blk 72 b (inqCells mb t v' (answer l A t) a' d') w' ∧ AdrRow w1.heap.size w' v' (Q ++ [A]) ∧ (∀ t, v'.ownBlock = some t → t < m) ∧ b < m ∧ OwnD m w'.heap.size w' (ints (answer l A t).f1) (.slice a' (answer l A t).f1.length d') ∧ Below w1.heap.size w1 w' := by
  have hsm := past_len hm A
  have hans := answer_past l A t
  obtain ⟨R, hR⟩ : ∃ R, answer l A t = R := ⟨_, rfl⟩
  rw [hR] at hans ⊢
  obtain ⟨p, hp'⟩ : ∃ p, past l A = p := ⟨_, rfl⟩
  have hps : sel l A l.length = p := hp'
  rw [hp'] at hans hsm
  have HA := Lib.hid hans
  obtain ⟨v0, hv0⟩ : ∃ v0, F A = v0 := ⟨_, rfl⟩
  have hpa1 := hg.one A hA
  rw [hv0, hps] at hpa1
  obtain ⟨A0, c0, hv1⟩ := hpa1.shape
  subst hv1
  have HV0 := Lib.hid hv0
  clear hR hp' hans hps hv0
  obtain ⟨xa, xc, rfl, hq1, hq2⟩ := hq.shape
  obtain ⟨n, hn⟩ : ∃ n, Q.length = n := ⟨_, rfl⟩
  rw [hn] at qI hq hq1
  have HN := Lib.hid hn
  clear hn
  have hbw := qI.lt
  have hvlt : ∀ t, (Value.slice xa n xc).ownBlock = some t → t < w.heap.size := fun t e => (AdrRow.lt hq e).2
  have hbs := hbl.size
  obtain ⟨O, hO⟩ : ∃ O, O = Obj.cells (adrCells A).toArray 26 (0, 0) := ⟨_, rfl⟩
  obtain ⟨W, hW⟩ : ∃ W, w.alloc O = W := ⟨_, rfl⟩
  have hB0 : Below w.heap.size w W := by rw [← hW]; exact (Below.refl _ _).alloc (Nat.le_refl _) _
  have hs0 : W.heap.size = w.heap.size + 1 := by rw [← hW]; simp only [gsize_alloc]
  have qA : Blk 26 w.heap.size (adrCells A) W := by rw [← hW, hO]; exact Blk.new _ _ w
  have qI := qI.below hB0
  have hq : AdrRow w1.heap.size W (.slice xa n xc) Q := AdrRow.below hq hB0
  have hbl := hbl.trans (hB0.mono hbs)
  have hW2 : w.alloc (.cells #[.int .i64 A.f0, .int .i64 A.f1, .int .i64 A.f2] 26) = W := by rw [← hW, hO]; rfl
  have HW := Lib.hid hW2
  clear hW hO hW2
  go_enter Try.func48, Try.ntmps48
  go_upto_region 1 with fail
  rw [HW.out]
  have qAd := qA.drew
  have qId := qI.drew
  have a0 : W.drew.cell? ⟨w.heap.size, 0, none⟩ = some (.int .i64 A.f0) := qAd.at rfl
  have a1 : W.drew.cell? ⟨w.heap.size, 1, none⟩ = some (.int .i64 A.f1) := qAd.at rfl
  have a2 : W.drew.cell? ⟨w.heap.size, 2, none⟩ = some (.int .i64 A.f2) := qAd.at rfl
  have b2 : W.drew.cell? ⟨b, 2, none⟩ = some (.slice xa n xc) := qId.at rfl
  have hA1 : Below W.heap.size W (W.alloc (.cells (adrCells A).toArray 26)).drew := ((Below.refl _ _).alloc (Nat.le_refl _) _).drew
  have qB : Blk 26 W.heap.size (adrCells A) (W.alloc (.cells (adrCells A).toArray 26)).drew := (Blk.new _ _ W).drew
  have b2' : (W.alloc (.cells #[.int .i64 A.f0, .int .i64 A.f1, .int .i64 A.f2] 26)).drew.cell? ⟨b, 2, none⟩ = some (.slice xa n xc) := (qI.below hA1).at rfl
  have hbs1 := hbl.size
  have hz1 := hA1.size
  have hq1d : AdrRow w1.heap.size (W.alloc (.cells (adrCells A).toArray 26)).drew (.slice xa n xc) Q := AdrRow.below hq hA1
  obtain ⟨v', w2, hrun, hq2', hgr⟩ := AdrRow.append (b2 := W.heap.size) (c := 1) hq1d (by omega) qB hQ 36
  have hnI := AdrRow.apart hq qI (by decide)
  have hnA : ∀ t, (Value.slice xa n xc).ownBlock = some t → t ≠ w.heap.size := fun t e => Nat.ne_of_lt (hvlt t e)
  have hA2 : Below w1.heap.size (W.alloc (.cells (adrCells A).toArray 26)).drew w2 := (Below.refl _ _).grown hgr (by omega) (fun t e => (AdrRow.lt hq1d e).1)
  have qI2 : Blk 72 b (inqCells mb t (.slice xa n xc) r a d) w2 := (hgr.block _ (Nat.lt_of_lt_of_le qI.lt hz1) (fun e => hnI _ e.symm rfl)).trans (qI.below hA1)
  have qA2 : Blk 26 w.heap.size (adrCells A) w2 := (hgr.block _ (Nat.lt_of_lt_of_le qA.lt hz1) (fun e => hnA _ e.symm rfl)).trans (qA.below hA1)
  have hbl2 := (hbl.trans (hA1.mono hbs1)).trans hA2
  have hz2 := hgr.size
  obtain ⟨xa', xc', hv', hq1', hq2''⟩ := hq2'.shape
  rw [List.length_append, List.length_singleton, HN.out] at hv' hq1'
  subst hv'
  have hnI2 := AdrRow.apart hq2' qI2 (by decide)
  have f2 := qI2.free 2
  have c2 : w2.cell? ⟨b, 2, none⟩ = some (.slice xa n xc) := qI2.at rfl
  have hZ : Zone b (b + 1) w2 (w2.setCell ⟨b, 2, none⟩ (.slice xa' (n + 1) xc')) := (Zone.refl _ _ _).setCell ⟨by omega, by omega⟩ _
  have hq5 : AdrRow w1.heap.size (w2.setCell ⟨b, 2, none⟩ (.slice xa' (n + 1) xc')) (.slice xa' (n + 1) xc') (Q ++ [A]) := AdrRow.keep hq2' fun t e => hZ.block t (AdrRow.lt hq2' e).2 (by have := hnI2 t e; omega)
  have hbl5 : Below w1.heap.size w1 (w2.setCell ⟨b, 2, none⟩ (.slice xa' (n + 1) xc')) := Below.setCell hbl2 (by dsimp only; omega) _
  have qA5 : Blk 26 w.heap.size (adrCells A) (w2.setCell ⟨b, 2, none⟩ (.slice xa' (n + 1) xc')) := qA2.other _ (by dsimp only; omega)
  have qI5 : Blk 72 b (inqCells mb t (.slice xa' (n + 1) xc') r a d) (w2.setCell ⟨b, 2, none⟩ (.slice xa' (n + 1) xc')) := qI2.set 2 (.slice xa' (n + 1) xc')
  have hz5 := hZ.size
  have HRUN := Lib.hid hrun
  have HZ := Lib.hid hz2
  have HS0 := Lib.hid hs0
  obtain ⟨W5, hW5⟩ : ∃ W5, w2.setCell ⟨b, 2, none⟩ (.slice xa' (n + 1) xc') = W5 := ⟨_, rfl⟩
  rw [hW5] at hq5 hbl5 qA5 qI5 hz5
  clear hrun hgr hA2 hnI hnA hnI2 hq qB hq1d hA1 hZ hq2' hbl2 qI2 qA2 qAd qId hbl hz1 hz2 qI qA hs0
  go_cut [11] (fun s wx => W5 = wx)
  case first =>
    go_region_law (refine step_append_run rfl _ _ _ rfl rfl rfl HRUN.out ?_)
    all_goals
      go_wp2_with fail
      go_meet
      case rel => trivial
  case rest =>
    obtain rfl := hcut
    clear HRUN HZ f2 c2 b2 b2' a0 a1 a2
    go_upto_region 2 with fail
    obtain ⟨Wd, hWd⟩ : ∃ Wd, W5.drew = Wd := ⟨_, rfl⟩
    have qA : Blk 26 w.heap.size (adrCells A) Wd := by rw [← hWd]; exact qA5
    have qI : Blk 72 b (inqCells mb t (.slice xa' (n + 1) xc') r a d) Wd := by rw [← hWd]; exact qI5
    have hq : AdrRow w1.heap.size Wd (.slice xa' (n + 1) xc') (Q ++ [A]) := by rw [← hWd]; exact hq5
    have hbl : Below w1.heap.size w1 Wd := by rw [← hWd]; exact gbelow_drewN hbl5 1
    have hzd := hbl.size
    clear qA5 qI5 hq5 hbl5 hz5 hW5
    have HBD := Lib.hid qI.lt
    have hlook := (hp.below hbl).look hA
    rw [HV0.out] at hlook
    simp only [vA] at hlook
    have hans := past_answer 0 Wd.heap.size Wd A0 c0 p ((hpa1.below hbl).lies (by omega)) (Nat.le_refl _) hsm.1 hsm.2 t
    rw [HA.out] at hans
    have HLOOK := Lib.hid hlook
    clear hlook
    refine wp_region_held_drew (S := (fun w' => w'.cell? ⟨b, 0, none⟩ = some (.map (some mb)) ∧ w'.cell? ⟨b, 1, none⟩ = some (.int .i64 t) ∧ w'.cell? ⟨w.heap.size, 0, none⟩ = some (.int .i64 A.f0) ∧ w'.cell? ⟨w.heap.size, 1, none⟩ = some (.int .i64 A.f1) ∧ w'.cell? ⟨w.heap.size, 2, none⟩ = some (.int .i64 A.f2))) (by kernel_rfl) (by rw [hWd]; exact ⟨qI.at rfl, qI.at rfl, qA.at rfl, qA.at rfl, qA.at rfl⟩) (fun hHeld => ?_)
    rw [hWd] at hHeld ⊢
    refine wpAnyH_take (i := 0) (v := ?va0) (List.getElem?_toArray.trans rfl) (by kernel_rfl) (by kernel_rfl) (by kernel_rfl) (fun _ _ _ h => h) (Or.inl ⟨by rfl, ?ya0⟩) (by assumption) ?ra0
    case ya0 => (intro w hSw; (try dsimp only at hSw); go_simp; try with_reducible rfl)
    try simp only [Act.put, List.setIfInBounds_toArray, List.set_cons_zero, List.set_cons_succ]
    refine wpAnyH_take (i := 1) (v := ?va1) (List.getElem?_toArray.trans rfl) (by kernel_rfl) (by kernel_rfl) (by kernel_rfl) (fun _ _ _ h => h) (Or.inl ⟨by rfl, ?ya1⟩) (by assumption) ?ra1
    case ya1 => (intro w hSw; (try dsimp only at hSw); go_simp; try with_reducible rfl)
    try simp only [Act.put, List.setIfInBounds_toArray, List.set_cons_zero, List.set_cons_succ]
    refine wpAnyH_take (i := 2) (v := ?va2) (List.getElem?_toArray.trans rfl) (by kernel_rfl) (by kernel_rfl) (by kernel_rfl) (fun _ _ _ h => h) (Or.inl ⟨by rfl, ?ya2⟩) (by assumption) ?ra2
    case ya2 => (intro w hSw; (try dsimp only at hSw); go_simp; try with_reducible rfl)
    try simp only [Act.put, List.setIfInBounds_toArray, List.set_cons_zero, List.set_cons_succ]
    refine wpAnyH_take (i := 3) (v := ?va3) (List.getElem?_toArray.trans rfl) (by kernel_rfl) (by kernel_rfl) (by kernel_rfl) (fun _ _ _ h => h) (Or.inl ⟨by rfl, ?ya3⟩) (by assumption) ?ra3
    case ya3 => (intro w hSw; (try dsimp only at hSw); go_simp; try with_reducible rfl)
    try simp only [Act.put, List.setIfInBounds_toArray, List.set_cons_zero, List.set_cons_succ]
    refine wpAnyH_take (i := 4) (v := .map (some mb)) (List.getElem?_toArray.trans rfl) (by kernel_rfl) (by kernel_rfl) (by kernel_rfl) (fun _ _ _ h => h) (Or.inl ⟨by rfl, ?ya4⟩) (by assumption) ?ra4
    case ya4 => (intro w hSw; (try dsimp only at hSw); go_simp; try simp [hSw])
    try simp only [Act.put, List.setIfInBounds_toArray, List.set_cons_zero, List.set_cons_succ]
    refine wpAnyH_take (i := 5) (v := .agg #[.int .i64 A.f0, .int .i64 A.f1, .int .i64 A.f2]) (List.getElem?_toArray.trans rfl) (by kernel_rfl) (by kernel_rfl) (by kernel_rfl) (fun _ _ _ h => h) (Or.inl ⟨by rfl, ?ya5⟩) (by assumption) ?ra5
    case ya5 => (intro w hSw; (try dsimp only at hSw); go_simp; try simp [hSw])
    try simp only [Act.put, List.setIfInBounds_toArray, List.set_cons_zero, List.set_cons_succ]
    refine wpAnyH_take (i := 7) (v := ?va7) (List.getElem?_toArray.trans rfl) (by kernel_rfl) (by kernel_rfl) (by kernel_rfl) (fun _ _ _ h => h) (Or.inl ⟨by rfl, ?ya7⟩) (by assumption) ?ra7
    case ya7 => (intro w hSw; (try dsimp only at hSw); go_simp; try with_reducible rfl)
    try simp only [Act.put, List.setIfInBounds_toArray, List.set_cons_zero, List.set_cons_succ]
    refine wpAnyH_take (i := 8) (v := ?va8) (List.getElem?_toArray.trans rfl) (by kernel_rfl) (by kernel_rfl) (by kernel_rfl) (fun _ _ _ h => h) (Or.inl ⟨by rfl, ?ya8⟩) (by assumption) ?ra8
    case ya8 => (intro w hSw; (try dsimp only at hSw); go_simp; try with_reducible rfl)
    try simp only [Act.put, List.setIfInBounds_toArray, List.set_cons_zero, List.set_cons_succ]
    refine wpAnyH_take (i := 9) (v := ?va9) (List.getElem?_toArray.trans rfl) (by kernel_rfl) (by kernel_rfl) (by kernel_rfl) (fun _ _ _ h => h) (Or.inl ⟨by rfl, ?ya9⟩) (by assumption) ?ra9
    case ya9 => (intro w hSw; (try dsimp only at hSw); go_simp; try with_reducible rfl)
    try simp only [Act.put, List.setIfInBounds_toArray, List.set_cons_zero, List.set_cons_succ]
    refine wpAnyH_take (i := 10) (v := .int .i64 t) (List.getElem?_toArray.trans rfl) (by kernel_rfl) (by kernel_rfl) (by kernel_rfl) (fun _ _ _ h => h) (Or.inl ⟨by rfl, ?ya10⟩) (by assumption) ?ra10
    case ya10 => (intro w hSw; (try dsimp only at hSw); go_simp; try simp [hSw])
    try simp only [Act.put, List.setIfInBounds_toArray, List.set_cons_zero, List.set_cons_succ]
    refine wpAnyH_ready (rs := [6]) (by kernel_rfl) (by simp) ?_
    refine AllReadyH.cons (List.getElem?_toArray.trans rfl) (fun K hK => ?_) AllReadyH.nil
    go_simp
    have hlook := HLOOK.out
    go_simp
    clear hlook
    have s9 : Wd.cell? ⟨b, 0, none⟩ = some (.map (some mb)) ∧ Wd.cell? ⟨b, 1, none⟩ = some (.int .i64 t) ∧ Wd.cell? ⟨w.heap.size, 0, none⟩ = some (.int .i64 A.f0) ∧ Wd.cell? ⟨w.heap.size, 1, none⟩ = some (.int .i64 A.f1) ∧ Wd.cell? ⟨w.heap.size, 2, none⟩ = some (.int .i64 A.f2) := ⟨qI.at rfl, qI.at rfl, qA.at rfl, qA.at rfl, qA.at rfl⟩
    refine hK.out _ _ s9 (fun hHeld => ?_)
    clear hK K
    try simp only [Act.put, List.setIfInBounds_toArray, List.set_cons_zero, List.set_cons_succ]
    refine wpAnyH_ready (rs := [11]) (by kernel_rfl) (by simp) ?_
    refine AllReadyH.cons (List.getElem?_toArray.trans rfl) (fun K hK => ?_) AllReadyH.nil
    go_simp
    go_at_call 42
    refine hans.mono ?_
    rintro e w6 ⟨x1, y1, rfl, ho6, hb6⟩
    have qI := Blk.below (w := Wd) qI hb6
    have qA := Blk.below (w := Wd) qA hb6
    have s9 : w6.cell? ⟨b, 0, none⟩ = some (.map (some mb)) ∧ w6.cell? ⟨b, 1, none⟩ = some (.int .i64 t) ∧ w6.cell? ⟨w.heap.size, 0, none⟩ = some (.int .i64 A.f0) ∧ w6.cell? ⟨w.heap.size, 1, none⟩ = some (.int .i64 A.f1) ∧ w6.cell? ⟨w.heap.size, 2, none⟩ = some (.int .i64 A.f2) := ⟨qI.at rfl, qI.at rfl, qA.at rfl, qA.at rfl, qA.at rfl⟩
    refine hK.out _ _ s9 (fun hHeld => ?_)
    clear hK K
    try simp only [Act.put, List.setIfInBounds_toArray, List.set_cons_zero, List.set_cons_succ]
    refine wpAnyH_take (i := 12) (v := ?va12) (List.getElem?_toArray.trans rfl) (by kernel_rfl) (by kernel_rfl) (by kernel_rfl) (fun _ _ _ h => h) (Or.inl ⟨by rfl, ?ya12⟩) (by assumption) ?ra12
    case ya12 => (intro w hSw; (try dsimp only at hSw); go_simp; try with_reducible rfl)
    try simp only [Act.put, List.setIfInBounds_toArray, List.set_cons_zero, List.set_cons_succ]
    refine wpAnyH_take (i := 13) (v := ?va13) (List.getElem?_toArray.trans rfl) (by kernel_rfl) (by kernel_rfl) (by kernel_rfl) (fun _ _ _ h => h) (Or.inl ⟨by rfl, ?ya13⟩) (by assumption) ?ra13
    case ya13 => (intro w hSw; (try dsimp only at hSw); go_simp; try with_reducible rfl)
    try simp only [Act.put, List.setIfInBounds_toArray, List.set_cons_zero, List.set_cons_succ]
    refine wpAnyH_ready (rs := [14]) (by kernel_rfl) (by simp) ?_
    refine AllReadyH.cons (List.getElem?_toArray.trans rfl) (fun K hK => ?_) AllReadyH.nil
    go_simp
    have o3 : w6.cell? ⟨b, 3, none⟩ = some (.int .i64 r.f0) := qI.at rfl
    have o4 : w6.cell? ⟨b, 4, none⟩ = some (.slice a r.f1.length d) := qI.at rfl
    have o5 : w6.cell? ⟨b, 5, none⟩ = some (.int .i64 r.f2.f0) := qI.at rfl
    have o6 : w6.cell? ⟨b, 6, none⟩ = some (.int .i64 r.f2.f1) := qI.at rfl
    have o7 : w6.cell? ⟨b, 7, none⟩ = some (.int .i64 r.f2.f2) := qI.at rfl
    have p3 := qI.free 3
    have p4 := qI.free 4
    have p5 := qI.free 5
    have p6 := qI.free 6
    have p7 := qI.free 7
    have hq6 : AdrRow w1.heap.size w6 (.slice xa' (n + 1) xc') (Q ++ [A]) := AdrRow.below (w := Wd) hq hb6
    have hnI := AdrRow.apart hq6 qI (by decide)
    have hbd : b < Wd.heap.size := by have := HBD.out; omega
    have hz6 := hb6.size
    have hZ : Zone b (b + 1) w6 (((((w6.setCell ⟨b, 3, none⟩ (.int .i64 R.f0)).setCell ⟨b, 4, none⟩ (.slice x1 R.f1.length y1)).setCell ⟨b, 5, none⟩ (.int .i64 R.f2.f0)).setCell ⟨b, 6, none⟩ (.int .i64 R.f2.f1)).setCell ⟨b, 7, none⟩ (.int .i64 R.f2.f2)) := by
      iterate 5 (refine Zone.setCell ?_ ⟨by omega, by omega⟩ _)
      exact Zone.refl _ _ _
    have hblF : Below w1.heap.size w1 (((((w6.setCell ⟨b, 3, none⟩ (.int .i64 R.f0)).setCell ⟨b, 4, none⟩ (.slice x1 R.f1.length y1)).setCell ⟨b, 5, none⟩ (.int .i64 R.f2.f0)).setCell ⟨b, 6, none⟩ (.int .i64 R.f2.f1)).setCell ⟨b, 7, none⟩ (.int .i64 R.f2.f2)) := by
      iterate 5 (refine Below.setCell ?_ (by dsimp only; omega) _)
      exact hbl.trans (hb6.mono hzd)
    have hqF := AdrRow.keep hq6 fun t e => hZ.block t (AdrRow.lt hq6 e).2 (by have := hnI t e; omega)
    have hoF := (OwnD.zone ho6 hZ (Or.inr (by omega))).more (Nat.le_refl _) hZ.size
    have hvd : ∀ t, (Value.slice xa' (n + 1) xc').ownBlock = some t → t < Wd.heap.size := fun t e => (AdrRow.lt hq e).2
    have qI := ((((qI.set 3 (.int .i64 R.f0)).set 4 (.slice x1 R.f1.length y1)).set 5 (.int .i64 R.f2.f0)).set 6 (.int .i64 R.f2.f1)).set 7 (.int .i64 R.f2.f2)
    have qA := ((((qA.other (a := ⟨b, 3, none⟩) (.int .i64 R.f0) (by dsimp only; omega)).other (a := ⟨b, 4, none⟩) (.slice x1 R.f1.length y1) (by dsimp only; omega)).other (a := ⟨b, 5, none⟩) (.int .i64 R.f2.f0) (by dsimp only; omega)).other (a := ⟨b, 6, none⟩) (.int .i64 R.f2.f1) (by dsimp only; omega)).other (a := ⟨b, 7, none⟩) (.int .i64 R.f2.f2) (by dsimp only; omega)
    go_simp
    have s9 : (((((w6.setCell ⟨b, 3, none⟩ (.int .i64 R.f0)).setCell ⟨b, 4, none⟩ (.slice x1 R.f1.length y1)).setCell ⟨b, 5, none⟩ (.int .i64 R.f2.f0)).setCell ⟨b, 6, none⟩ (.int .i64 R.f2.f1)).setCell ⟨b, 7, none⟩ (.int .i64 R.f2.f2)).cell? ⟨b, 0, none⟩ = some (.map (some mb)) ∧ (((((w6.setCell ⟨b, 3, none⟩ (.int .i64 R.f0)).setCell ⟨b, 4, none⟩ (.slice x1 R.f1.length y1)).setCell ⟨b, 5, none⟩ (.int .i64 R.f2.f0)).setCell ⟨b, 6, none⟩ (.int .i64 R.f2.f1)).setCell ⟨b, 7, none⟩ (.int .i64 R.f2.f2)).cell? ⟨b, 1, none⟩ = some (.int .i64 t) ∧ (((((w6.setCell ⟨b, 3, none⟩ (.int .i64 R.f0)).setCell ⟨b, 4, none⟩ (.slice x1 R.f1.length y1)).setCell ⟨b, 5, none⟩ (.int .i64 R.f2.f0)).setCell ⟨b, 6, none⟩ (.int .i64 R.f2.f1)).setCell ⟨b, 7, none⟩ (.int .i64 R.f2.f2)).cell? ⟨w.heap.size, 0, none⟩ = some (.int .i64 A.f0) ∧ (((((w6.setCell ⟨b, 3, none⟩ (.int .i64 R.f0)).setCell ⟨b, 4, none⟩ (.slice x1 R.f1.length y1)).setCell ⟨b, 5, none⟩ (.int .i64 R.f2.f0)).setCell ⟨b, 6, none⟩ (.int .i64 R.f2.f1)).setCell ⟨b, 7, none⟩ (.int .i64 R.f2.f2)).cell? ⟨w.heap.size, 1, none⟩ = some (.int .i64 A.f1) ∧ (((((w6.setCell ⟨b, 3, none⟩ (.int .i64 R.f0)).setCell ⟨b, 4, none⟩ (.slice x1 R.f1.length y1)).setCell ⟨b, 5, none⟩ (.int .i64 R.f2.f0)).setCell ⟨b, 6, none⟩ (.int .i64 R.f2.f1)).setCell ⟨b, 7, none⟩ (.int .i64 R.f2.f2)).cell? ⟨w.heap.size, 2, none⟩ = some (.int .i64 A.f2) := ⟨qI.at rfl, qI.at rfl, qA.at rfl, qA.at rfl, qA.at rfl⟩
    refine hK.out _ _ s9 (fun hHeld => ?_)
    clear hK K
    try simp only [Act.put, List.setIfInBounds_toArray, List.set_cons_zero, List.set_cons_succ]
    refine wpAnyH_done (by kernel_rfl) ?_ _
    go_wp2
    go_end0
    exact ⟨_, x1, y1, Wd.heap.size, rfl, qI, hqF, hvd, hbd, hoF, hblF⟩
end Go.Proofs.Ytldpgkbemgpacaa.Sites
