/-
  slices.Contains at addresses: whether an address is among those that were asked. Whether one more move is followed: the program. The program's inquiry: an address is asked. Sites that change: the program. Moves that are followed.
  Conditions: as each theorem states them.
-/
import Derived.Test.YtagnhfalmefbhaaSiteMath
import Derived.Deep.QuietTactic
import Derived.BigQuiet
import Derived.Deep.CutBlock
import Derived.Deep.DeepCutAuto
import Derived.Test.YtagnhfalmefbhaaFollowMath
import Derived.Deep.RegionHeld3
import Derived.Test.YtagnhfalmefbhaaBacks
import Derived.Test.YtagnhfalmefbhaaAdrRow
import Derived.Deep.RegionLaw
import Derived.Test.YtagnhfalmefbhaaSiteI
import Derived.Test.YtagnhfalmefbhaaGiven9
namespace Go.Proofs.Ytagnhfalmefbhaa.Sites
open Go Go.RowKit Go.Proofs.Ytagnhfalmefbhaa.Mem Go.Proofs.Ytagnhfalmefbhaa.Gen Go.Proofs.Ytagnhfalmefbhaa.Adr

theorem sameA_comm (a b : TAddress) : sameA a b = sameA b a := by
  cases h : sameA b a with
  | true => rw [sameA_iff] at *; exact h.symm
  | false =>
    cases h' : sameA a b with
    | false => rfl
    | true => rw [sameA_iff.1 h', sameA_iff.2 rfl] at h; cases h
set_option maxHeartbeats 1600000 in
set_option maxRecDepth 100000 in
theorem index_addr (lo hi : Nat) (w : World) (L : Option Addr) (c : Nat) (l : List TAddress) (h : Lies lo hi w (dAddress l) (.slice L l.length c)) (hh : hi ≤ w.heap.size) (hm : l.length ≤ 1048576) (A : TAddress) :
    Calls Try.prog 102 #[.slice L l.length c, .agg #[.int .i64 A.f0, .int .i64 A.f1, .int .i64 A.f2]] w fun e w' => ∃ i : Int, e = .returned (.int .i64 i) ∧ decide (0 ≤ i) = hasA l A ∧ Below w.heap.size w w' := by
  have hB0 : Below w.heap.size w (w.alloc (.cells #[.int .i64 A.f0, .int .i64 A.f1, .int .i64 A.f2] 29)) := (Below.refl _ _).alloc (Nat.le_refl _) _
  have q0 := Blk.new 29 [.int .i64 A.f0, .int .i64 A.f1, .int .i64 A.f2] w
  obtain ⟨n, hn⟩ : ∃ n, l.length = n := ⟨_, rfl⟩
  obtain ⟨R, hR⟩ : ∃ R, hasA l A = R := ⟨_, rfl⟩
  rw [hR]
  rw [hn] at h hm ⊢
  have HN := Lib.hid hn
  have HR := Lib.hid hR
  clear hn hR
  go_enter Try.func102, Try.ntmps102
  go_wp2
  go_loopw [8] (fun i wr => ∃ j : Nat, j ≤ n ∧ i = .int .i64 j ∧ NotYet l A j ∧ Blk 29 w.heap.size [.int .i64 A.f0, .int .i64 A.f1, .int .i64 A.f2] wr ∧ Below w.heap.size w wr) (fun i _ => n - (Go.RowKit.intOf i).toNat)
  case atStart => exact ⟨0, Nat.zero_le _, rfl, NotYet.zero _ _, q0, hB0⟩
  case round =>
    obtain ⟨j, hj, rfl, hny, qA, hbl⟩ := hrel
    clear q0 hB0
    by_cases hlt : j < n
    · have hbs := hbl.size
      obtain ⟨b, off, rfl, _, _, hc, _⟩ := at_Address (h.under hbl hh) hlt
      have HNX := Lib.hid (fun h => hny.next h)
      have HYE := Lib.hid (fun h => hasA_yes (l := l) (A := A) (j := j) (by rw [HN.out]; exact hlt) h)
      obtain ⟨V, hV⟩ : ∃ V, l.getD j nAddress = V := ⟨_, rfl⟩
      rw [hV] at hc HNX HYE
      obtain ⟨c0, c1, c2⟩ := hc
      have a0 : wr.cell? ⟨w.heap.size, 0, none⟩ = some (.int .i64 A.f0) := qA.at rfl
      have a1 : wr.cell? ⟨w.heap.size, 1, none⟩ = some (.int .i64 A.f1) := qA.at rfl
      have a2 : wr.cell? ⟨w.heap.size, 2, none⟩ = some (.int .i64 A.f2) := qA.at rfl
      clear hV hny
      by_cases same : sameA V A = true
      · have hy := HYE.out same
        rw [HR.out] at hy
        obtain ⟨e0, e1, e2⟩ := sameA_all (by rw [sameA_comm]; exact same)
        go_upto_region 4 with fail
        go_quiet (fail)
        go_wp2
        go_ret
        exact ⟨j, rfl, by rw [hy]; simp, gbelow_drewN hbl _⟩
      · have same0 : sameA V A = false := by simpa using same
        have hnx := HNX.out same0
        rcases sameA_cases (by rw [sameA_comm]; exact same0 : sameA A V = false) with e0 | ⟨e0, e1⟩ | ⟨e0, e1, e2⟩
        all_goals
          go_upto_region 4 with fail
          go_quiet (fail)
          go_wp2
          go_roundw
          case rel => exact ⟨j + 1, by omega, by go_num, hnx, qA.drewN _, gbelow_drewN hbl _⟩
          case measure => simp [Go.RowKit.intOf]; omega
    · have hd : decide ((j : Int) < (n : Int)) = false := by simp; omega
      have e1 := hny.end (by rw [HN.out]; omega)
      rw [HR.out] at e1
      go_wp2
      go_ret
      exact ⟨-1, rfl, by rw [e1]; rfl, hbl⟩
set_option maxHeartbeats 1600000 in
set_option maxRecDepth 100000 in
theorem contains_addr (lo hi : Nat) (w : World) (L : Option Addr) (c : Nat) (l : List TAddress) (h : Lies lo hi w (dAddress l) (.slice L l.length c)) (hh : hi ≤ w.heap.size) (hm : l.length ≤ 1048576) (A : TAddress) :
    Calls Try.prog 96 #[.slice L l.length c, .agg #[.int .i64 A.f0, .int .i64 A.f1, .int .i64 A.f2]] w fun e w' => e = .returned (.bool (hasA l A)) ∧ Below w.heap.size w w' := by
  have hB0 : Below w.heap.size w (w.alloc (.cells #[.int .i64 A.f0, .int .i64 A.f1, .int .i64 A.f2] 29)) := (Below.refl _ _).alloc (Nat.le_refl _) _
  have q0 := Blk.new 29 [.int .i64 A.f0, .int .i64 A.f1, .int .i64 A.f2] w
  have a0 : (w.alloc (.cells #[.int .i64 A.f0, .int .i64 A.f1, .int .i64 A.f2] 29)).cell? ⟨w.heap.size, 0, none⟩ = some (.int .i64 A.f0) := q0.at rfl
  have a1 : (w.alloc (.cells #[.int .i64 A.f0, .int .i64 A.f1, .int .i64 A.f2] 29)).cell? ⟨w.heap.size, 1, none⟩ = some (.int .i64 A.f1) := q0.at rfl
  have a2 : (w.alloc (.cells #[.int .i64 A.f0, .int .i64 A.f1, .int .i64 A.f2] 29)).cell? ⟨w.heap.size, 2, none⟩ = some (.int .i64 A.f2) := q0.at rfl
  have hI := index_addr lo hi _ L c l (h.under hB0 hh) (Nat.le_trans hh hB0.size) hm A
  obtain ⟨n, hn⟩ : ∃ n, l.length = n := ⟨_, rfl⟩
  rw [hn] at hI ⊢
  obtain ⟨R, hR⟩ : ∃ R, hasA l A = R := ⟨_, rfl⟩
  rw [hR] at hI ⊢
  clear hR
  go_enter Try.func96, Try.ntmps96
  go_wp2_with fail
  go_at_call 102
  refine hI.mono ?_
  rintro e w1 ⟨i, rfl, hi', hb1⟩
  have hge : decide (i ≥ 0) = R := hi'
  clear hI
  go_wp2
  go_ret
  exact ⟨rfl, hB0.trans (hb1.mono hB0.size)⟩
end Go.Proofs.Ytagnhfalmefbhaa.Sites
namespace Go.Proofs.Ytagnhfalmefbhaa.Sites
open Go Go.RowKit Go.Proofs.Ytagnhfalmefbhaa.Mem Go.Proofs.Ytagnhfalmefbhaa.Gen Go.Proofs.Ytagnhfalmefbhaa.Adr Go.Proofs.Ytagnhfalmefbhaa.Res

/-- The cells of an inquiry. -/
def inqCells (mb : Nat) (t : Int) (v : Value) (r : TResource) (a : Option Addr) (d : Nat) : List Value := [.map (some mb), .int .i64 t, v, .int .i64 r.f0, .slice a r.f1.length d, .int .i64 r.f2.f0, .int .i64 r.f2.f1, .int .i64 r.f2.f2]
set_option maxHeartbeats 4000000 in
set_option maxRecDepth 100000 in
theorem can_follow (w : World) (b mb : Nat) (t : Int) (xa : Option Addr) (xc : Nat) (Q : List TAddress) (r : TResource) (a : Option Addr) (d : Nat) (qI : Blk 109 b (inqCells mb t (.slice xa Q.length xc) r a d) w) (hq : Lies 0 w.heap.size w (dAddress Q) (.slice xa Q.length xc)) (hn5 : Q.length ≤ 1000) (hn1 : 1 ≤ Q.length) :
    Calls Try.prog 78 #[.pointer (some ⟨b, 0, none⟩)] w fun e w' => e = .returned (.bool (moves Q r)) ∧ Below w.heap.size w w' := by
  have hC := fun (W : World) (hb : Below w.heap.size w W) => contains_addr 0 w.heap.size W xa xc Q (hq.under hb (Nat.le_refl _)) hb.size (by omega) r.f2
  obtain ⟨n, hn⟩ : ∃ n, Q.length = n := ⟨_, rfl⟩
  obtain ⟨bh, hbh⟩ : ∃ x, hasA Q r.f2 = x := ⟨_, rfl⟩
  obtain ⟨M, hM⟩ : ∃ x, moves Q r = x := ⟨_, rfl⟩
  rw [hbh] at hC
  rw [hM]
  rw [hn] at hC qI hn5 hn1
  have q0 : w.cell? ⟨b, 2, none⟩ = some (.slice xa n xc) := qI.at rfl
  have q3 : w.cell? ⟨b, 3, none⟩ = some (.int .i64 r.f0) := qI.at rfl
  have q5 : w.cell? ⟨b, 5, none⟩ = some (.int .i64 r.f2.f0) := qI.at rfl
  have q6 : w.cell? ⟨b, 6, none⟩ = some (.int .i64 r.f2.f1) := qI.at rfl
  have q7 : w.cell? ⟨b, 7, none⟩ = some (.int .i64 r.f2.f2) := qI.at rfl
  have hw1 : IntKind.wrap .i64 ((n : Int) - 1) = (n : Int) - 1 := by rw [IntKind.wrap_i64]; omega
  by_cases h3 : r.f0 = 3
  · have e3 : (r.f0 == 3) = true := by simpa using h3
    by_cases h4 : n ≤ 4
    · have d4 : decide ((n : Int) - 1 < 4) = true := by simp; omega
      have hM2 : M = !bh := by rw [← hM, moves_has h3 (by rw [hn]; exact h4), hbh]
      have HM2 := Lib.hid hM2
      clear hM2 hM hbh hn hq
      have s3 : w.drew.cell? ⟨b, 2, none⟩ = some (.slice xa n xc) ∧ w.drew.cell? ⟨b, 3, none⟩ = some (.int .i64 r.f0) ∧ w.drew.cell? ⟨b, 5, none⟩ = some (.int .i64 r.f2.f0) ∧ w.drew.cell? ⟨b, 6, none⟩ = some (.int .i64 r.f2.f1) ∧ w.drew.cell? ⟨b, 7, none⟩ = some (.int .i64 r.f2.f2) := ⟨qI.at rfl, qI.at rfl, qI.at rfl, qI.at rfl, qI.at rfl⟩
      have hCd := hC w.drew ((Below.refl _ _).drew)
      clear hC
      go_enter Try.func78, Try.ntmps78
      go_upto_region 2 with fail
      go_region_held3 (fun w' => w'.cell? ⟨b, 2, none⟩ = some (.slice xa n xc) ∧ w'.cell? ⟨b, 3, none⟩ = some (.int .i64 r.f0) ∧ w'.cell? ⟨b, 5, none⟩ = some (.int .i64 r.f2.f0) ∧ w'.cell? ⟨b, 6, none⟩ = some (.int .i64 r.f2.f1) ∧ w'.cell? ⟨b, 7, none⟩ = some (.int .i64 r.f2.f2))
        (first | (with_reducible exact s3) | go_keep)
        (first
        | (go_at_call 96; refine Calls.mono hCd ?_; rintro e u1 ⟨rfl, hb1⟩; have qI1 := Blk.below (w := w.drew) qI hb1; have s3 : u1.cell? ⟨b, 2, none⟩ = some (.slice xa n xc) ∧ u1.cell? ⟨b, 3, none⟩ = some (.int .i64 r.f0) ∧ u1.cell? ⟨b, 5, none⟩ = some (.int .i64 r.f2.f0) ∧ u1.cell? ⟨b, 6, none⟩ = some (.int .i64 r.f2.f1) ∧ u1.cell? ⟨b, 7, none⟩ = some (.int .i64 r.f2.f2) := ⟨qI1.at rfl, qI1.at rfl, qI1.at rfl, qI1.at rfl, qI1.at rfl⟩))
      all_goals
        go_wp2
        go_ret
        have hm := HM2.out
        exact ⟨by first | (rw [hm]; done) | (rw [hm]; rfl), (((Below.refl w.heap.size w).drew).trans hb1)⟩
    · have d4 : decide ((n : Int) - 1 < 4) = false := by simp; omega
      have hM2 : M = false := by rw [← hM]; exact moves_len (by rw [hn]; exact h4)
      have HM2 := Lib.hid hM2
      clear hM2 hM hbh hn hq hC
      go_enter Try.func78, Try.ntmps78
      go_upto_region 2 with fail
      go_quiet (fail)
      go_wp2
      go_ret
      have hm := HM2.out
      exact ⟨by first | (rw [hm]; done) | (rw [hm]; rfl), gbelow_drewN (Below.refl _ _) _⟩
  · have e3 : (r.f0 == 3) = false := by simpa using h3
    have hM2 : M = false := by rw [← hM]; exact moves_kind h3
    have HM2 := Lib.hid hM2
    clear hM2 hM hbh hn hq hC
    go_enter Try.func78, Try.ntmps78
    go_upto_region 2 with fail
    go_quiet (fail)
    go_wp2
    go_ret
    have hm := HM2.out
    exact ⟨by first | (rw [hm]; done) | (rw [hm]; rfl), gbelow_drewN (Below.refl _ _) _⟩
end Go.Proofs.Ytagnhfalmefbhaa.Sites
namespace Go.Proofs.Ytagnhfalmefbhaa.Sites
open Go Go.RowKit Go.Proofs.Ytagnhfalmefbhaa.Mem Go.Proofs.Ytagnhfalmefbhaa.Gen Go.Proofs.Ytagnhfalmefbhaa.Adr Go.Proofs.Ytagnhfalmefbhaa.Res

theorem step_append_run {P : Program} {ops : Array Oper} {o : Oper} {a : Act} {w : World} {K : Act → World → Prop} {Q : Exit → Act → World → Prop} {E : Prop} (hgd : o.guard = none) (s x : Operand) (t : TypeId)
    (ho : o.op = .call { callee := .builtin .append, args := #[s, x], argTypes := #[t, t] }) {v u v' : Value} {w' : World} (hs : a.eval s = v) (hx : a.eval x = u) (hr : (Builtin.append_ #[t, t] o.type #[v, u]).run P w = .ok v' w') (hK : K (a.put o.dst v') w') :
    if Region.wanted o (yielded ops a.tmps) = true then Oper.wp P o a w K Q else E := by
  have hw : Region.wanted o (yielded ops a.tmps) = true := by simp [Region.wanted, hgd]
  rw [if_pos hw]
  unfold Oper.wp execOp
  simp only [ho, resolve, invoke, builtin, Sem.run_bind, Sem.run_pure, Result.andThen_ok, List.map_toArray, List.map_cons, List.map_nil, hs, hx, hr]
  exact hK

set_option maxHeartbeats 8000000 in
set_option maxRecDepth 100000 in
theorem ask_impl (lo hi B0 mb nn : Nat) (w1 w : World) (F : TAddress → Value) (l : List TVersion) (hp : Pasts mb nn w1 F) (hg : Groups mb B0 lo hi w1 F l l.length) (hhi : hi ≤ w1.heap.size) (hm : room (dVersion l) ≤ 1048576) (hbl : Below w1.heap.size w1 w)
    (b : Nat) (hb : w1.heap.size ≤ b) (t : Int) (v : Value) (Q : List TAddress) (r : TResource) (a : Option Addr) (d : Nat) (qI : Blk 109 b (inqCells mb t v r a d) w) (hq : AdrRow w1.heap.size w v Q) (hQ : Q.length ≤ 1000) (A : TAddress) (hA : WfA A) :
    Calls Try.prog 77 #[.pointer (some ⟨b, 0, none⟩), .agg #[.int .i64 A.f0, .int .i64 A.f1, .int .i64 A.f2]] w fun e w' => ∃ (v' : Value) (a' : Option Addr) (d' m : Nat), e = .returned (.tuple #[]) ∧ Blk 109 b (inqCells mb t v' (answer l A t) a' d') w' ∧ AdrRow w1.heap.size w' v' (Q ++ [A]) ∧ (∀ t, v'.ownBlock = some t → t < m) ∧ b < m ∧ OwnD m w'.heap.size w' (ints (answer l A t).f1) (.slice a' (answer l A t).f1.length d') ∧ Below w1.heap.size w1 w' := by
  have hsm := past_len hm A
  have hans := answer_past l A t
  obtain ⟨R, hR⟩ : ∃ R, answer l A t = R := ⟨_, rfl⟩
  rw [hR] at hans ⊢
  obtain ⟨p, hp'⟩ : ∃ p, past l A = p := ⟨_, rfl⟩
  have hps : sel l A l.length = p := hp'
  rw [hp'] at hans hsm
  have HA := Lib.hid hans
  obtain ⟨v0, hv0⟩ : ∃ v0, F A = v0 := ⟨_, rfl⟩
  have hpa1 := hg.one A hA
  rw [hv0, hps] at hpa1
  obtain ⟨A0, c0, hv1⟩ := hpa1.shape
  subst hv1
  have HV0 := Lib.hid hv0
  clear hR hp' hans hps hv0
  obtain ⟨xa, xc, rfl, hq1, hq2⟩ := hq.shape
  obtain ⟨n, hn⟩ : ∃ n, Q.length = n := ⟨_, rfl⟩
  rw [hn] at qI hq hq1
  have HN := Lib.hid hn
  clear hn
  have hbw := qI.lt
  have hvlt : ∀ t, (Value.slice xa n xc).ownBlock = some t → t < w.heap.size := fun t e => (AdrRow.lt hq e).2
  have hbs := hbl.size
  obtain ⟨O, hO⟩ : ∃ O, O = Obj.cells (adrCells A).toArray 29 (0, 0) := ⟨_, rfl⟩
  obtain ⟨W, hW⟩ : ∃ W, w.alloc O = W := ⟨_, rfl⟩
  have hB0 : Below w.heap.size w W := by rw [← hW]; exact (Below.refl _ _).alloc (Nat.le_refl _) _
  have hs0 : W.heap.size = w.heap.size + 1 := by rw [← hW]; simp only [gsize_alloc]
  have qA : Blk 29 w.heap.size (adrCells A) W := by rw [← hW, hO]; exact Blk.new _ _ w
  have qI := qI.below hB0
  have hq : AdrRow w1.heap.size W (.slice xa n xc) Q := AdrRow.below hq hB0
  have hbl := hbl.trans (hB0.mono hbs)
  have hW2 : w.alloc (.cells #[.int .i64 A.f0, .int .i64 A.f1, .int .i64 A.f2] 29) = W := by rw [← hW, hO]; rfl
  have HW := Lib.hid hW2
  clear hW hO hW2
  go_enter Try.func77, Try.ntmps77
  go_upto_region 1 with fail
  rw [HW.out]
  have qAd := qA.drew
  have qId := qI.drew
  have a0 : W.drew.cell? ⟨w.heap.size, 0, none⟩ = some (.int .i64 A.f0) := qAd.at rfl
  have a1 : W.drew.cell? ⟨w.heap.size, 1, none⟩ = some (.int .i64 A.f1) := qAd.at rfl
  have a2 : W.drew.cell? ⟨w.heap.size, 2, none⟩ = some (.int .i64 A.f2) := qAd.at rfl
  have b2 : W.drew.cell? ⟨b, 2, none⟩ = some (.slice xa n xc) := qId.at rfl
  have hA1 : Below W.heap.size W (W.alloc (.cells (adrCells A).toArray 29)).drew := ((Below.refl _ _).alloc (Nat.le_refl _) _).drew
  have qB : Blk 29 W.heap.size (adrCells A) (W.alloc (.cells (adrCells A).toArray 29)).drew := (Blk.new _ _ W).drew
  have b2' : (W.alloc (.cells #[.int .i64 A.f0, .int .i64 A.f1, .int .i64 A.f2] 29)).drew.cell? ⟨b, 2, none⟩ = some (.slice xa n xc) := (qI.below hA1).at rfl
  have hbs1 := hbl.size
  have hz1 := hA1.size
  have hq1d : AdrRow w1.heap.size (W.alloc (.cells (adrCells A).toArray 29)).drew (.slice xa n xc) Q := AdrRow.below hq hA1
  obtain ⟨v', w2, hrun, hq2', hgr⟩ := AdrRow.append (b2 := W.heap.size) (c := 1) hq1d (by omega) qB hQ 36
  have hnI := AdrRow.apart hq qI (by decide)
  have hnA : ∀ t, (Value.slice xa n xc).ownBlock = some t → t ≠ w.heap.size := fun t e => Nat.ne_of_lt (hvlt t e)
  have hA2 : Below w1.heap.size (W.alloc (.cells (adrCells A).toArray 29)).drew w2 := (Below.refl _ _).grown hgr (by omega) (fun t e => (AdrRow.lt hq1d e).1)
  have qI2 : Blk 109 b (inqCells mb t (.slice xa n xc) r a d) w2 := (hgr.block _ (Nat.lt_of_lt_of_le qI.lt hz1) (fun e => hnI _ e.symm rfl)).trans (qI.below hA1)
  have qA2 : Blk 29 w.heap.size (adrCells A) w2 := (hgr.block _ (Nat.lt_of_lt_of_le qA.lt hz1) (fun e => hnA _ e.symm rfl)).trans (qA.below hA1)
  have hbl2 := (hbl.trans (hA1.mono hbs1)).trans hA2
  have hz2 := hgr.size
  obtain ⟨xa', xc', hv', hq1', hq2''⟩ := hq2'.shape
  rw [List.length_append, List.length_singleton, HN.out] at hv' hq1'
  subst hv'
  have hnI2 := AdrRow.apart hq2' qI2 (by decide)
  have f2 := qI2.free 2
  have c2 : w2.cell? ⟨b, 2, none⟩ = some (.slice xa n xc) := qI2.at rfl
  have hZ : Zone b (b + 1) w2 (w2.setCell ⟨b, 2, none⟩ (.slice xa' (n + 1) xc')) := (Zone.refl _ _ _).setCell ⟨by omega, by omega⟩ _
  have hq5 : AdrRow w1.heap.size (w2.setCell ⟨b, 2, none⟩ (.slice xa' (n + 1) xc')) (.slice xa' (n + 1) xc') (Q ++ [A]) := AdrRow.keep hq2' fun t e => hZ.block t (AdrRow.lt hq2' e).2 (by have := hnI2 t e; omega)
  have hbl5 : Below w1.heap.size w1 (w2.setCell ⟨b, 2, none⟩ (.slice xa' (n + 1) xc')) := Below.setCell hbl2 (by dsimp only; omega) _
  have qA5 : Blk 29 w.heap.size (adrCells A) (w2.setCell ⟨b, 2, none⟩ (.slice xa' (n + 1) xc')) := qA2.other _ (by dsimp only; omega)
  have qI5 : Blk 109 b (inqCells mb t (.slice xa' (n + 1) xc') r a d) (w2.setCell ⟨b, 2, none⟩ (.slice xa' (n + 1) xc')) := qI2.set 2 (.slice xa' (n + 1) xc')
  have hz5 := hZ.size
  have HRUN := Lib.hid hrun
  have HZ := Lib.hid hz2
  have HS0 := Lib.hid hs0
  obtain ⟨W5, hW5⟩ : ∃ W5, w2.setCell ⟨b, 2, none⟩ (.slice xa' (n + 1) xc') = W5 := ⟨_, rfl⟩
  rw [hW5] at hq5 hbl5 qA5 qI5 hz5
  clear hrun hgr hA2 hnI hnA hnI2 hq qB hq1d hA1 hZ hq2' hbl2 qI2 qA2 qAd qId hbl hz1 hz2 qI qA hs0
  go_cut [11] (fun s wx => W5 = wx)
  case first =>
    go_region_law (refine step_append_run rfl _ _ _ rfl rfl rfl HRUN.out ?_)
    all_goals
      go_wp2_with fail
      go_meet
      case rel => trivial
  case rest =>
    obtain rfl := hcut
    clear HRUN HZ f2 c2 b2 b2' a0 a1 a2
    go_upto_region 2 with fail
    obtain ⟨Wd, hWd⟩ : ∃ Wd, W5.drew = Wd := ⟨_, rfl⟩
    have qA : Blk 29 w.heap.size (adrCells A) Wd := by rw [← hWd]; exact qA5
    have qI : Blk 109 b (inqCells mb t (.slice xa' (n + 1) xc') r a d) Wd := by rw [← hWd]; exact qI5
    have hq : AdrRow w1.heap.size Wd (.slice xa' (n + 1) xc') (Q ++ [A]) := by rw [← hWd]; exact hq5
    have hbl : Below w1.heap.size w1 Wd := by rw [← hWd]; exact gbelow_drewN hbl5 1
    have hzd := hbl.size
    clear qA5 qI5 hq5 hbl5 hz5 hW5
    have HBD := Lib.hid qI.lt
    have hlook := (hp.below hbl).look hA
    rw [HV0.out] at hlook
    simp only [vA] at hlook
    have hans := past_answer 0 Wd.heap.size Wd A0 c0 p ((hpa1.below hbl).lies (by omega)) (Nat.le_refl _) hsm.1 hsm.2 t
    rw [HA.out] at hans
    have HLOOK := Lib.hid hlook
    clear hlook
    refine wp_region_held_drew (S := (fun w' => w'.cell? ⟨b, 0, none⟩ = some (.map (some mb)) ∧ w'.cell? ⟨b, 1, none⟩ = some (.int .i64 t) ∧ w'.cell? ⟨w.heap.size, 0, none⟩ = some (.int .i64 A.f0) ∧ w'.cell? ⟨w.heap.size, 1, none⟩ = some (.int .i64 A.f1) ∧ w'.cell? ⟨w.heap.size, 2, none⟩ = some (.int .i64 A.f2))) (by kernel_rfl) (by rw [hWd]; exact ⟨qI.at rfl, qI.at rfl, qA.at rfl, qA.at rfl, qA.at rfl⟩) (fun hHeld => ?_)
    rw [hWd] at hHeld ⊢
    refine wpAnyH_take (i := 0) (v := ?va0) (List.getElem?_toArray.trans rfl) (by kernel_rfl) (by kernel_rfl) (by kernel_rfl) (fun _ _ _ h => h) (Or.inl ⟨by rfl, ?ya0⟩) (by assumption) ?ra0
    case ya0 => (intro w hSw; (try dsimp only at hSw); go_simp; try with_reducible rfl)
    try simp only [Act.put, List.setIfInBounds_toArray, List.set_cons_zero, List.set_cons_succ]
    refine wpAnyH_take (i := 1) (v := ?va1) (List.getElem?_toArray.trans rfl) (by kernel_rfl) (by kernel_rfl) (by kernel_rfl) (fun _ _ _ h => h) (Or.inl ⟨by rfl, ?ya1⟩) (by assumption) ?ra1
    case ya1 => (intro w hSw; (try dsimp only at hSw); go_simp; try with_reducible rfl)
    try simp only [Act.put, List.setIfInBounds_toArray, List.set_cons_zero, List.set_cons_succ]
    refine wpAnyH_take (i := 2) (v := ?va2) (List.getElem?_toArray.trans rfl) (by kernel_rfl) (by kernel_rfl) (by kernel_rfl) (fun _ _ _ h => h) (Or.inl ⟨by rfl, ?ya2⟩) (by assumption) ?ra2
    case ya2 => (intro w hSw; (try dsimp only at hSw); go_simp; try with_reducible rfl)
    try simp only [Act.put, List.setIfInBounds_toArray, List.set_cons_zero, List.set_cons_succ]
    refine wpAnyH_take (i := 3) (v := ?va3) (List.getElem?_toArray.trans rfl) (by kernel_rfl) (by kernel_rfl) (by kernel_rfl) (fun _ _ _ h => h) (Or.inl ⟨by rfl, ?ya3⟩) (by assumption) ?ra3
    case ya3 => (intro w hSw; (try dsimp only at hSw); go_simp; try with_reducible rfl)
    try simp only [Act.put, List.setIfInBounds_toArray, List.set_cons_zero, List.set_cons_succ]
    refine wpAnyH_take (i := 4) (v := .map (some mb)) (List.getElem?_toArray.trans rfl) (by kernel_rfl) (by kernel_rfl) (by kernel_rfl) (fun _ _ _ h => h) (Or.inl ⟨by rfl, ?ya4⟩) (by assumption) ?ra4
    case ya4 => (intro w hSw; (try dsimp only at hSw); go_simp; try simp [hSw])
    try simp only [Act.put, List.setIfInBounds_toArray, List.set_cons_zero, List.set_cons_succ]
    refine wpAnyH_take (i := 5) (v := .agg #[.int .i64 A.f0, .int .i64 A.f1, .int .i64 A.f2]) (List.getElem?_toArray.trans rfl) (by kernel_rfl) (by kernel_rfl) (by kernel_rfl) (fun _ _ _ h => h) (Or.inl ⟨by rfl, ?ya5⟩) (by assumption) ?ra5
    case ya5 => (intro w hSw; (try dsimp only at hSw); go_simp; try simp [hSw])
    try simp only [Act.put, List.setIfInBounds_toArray, List.set_cons_zero, List.set_cons_succ]
    refine wpAnyH_take (i := 7) (v := ?va7) (List.getElem?_toArray.trans rfl) (by kernel_rfl) (by kernel_rfl) (by kernel_rfl) (fun _ _ _ h => h) (Or.inl ⟨by rfl, ?ya7⟩) (by assumption) ?ra7
    case ya7 => (intro w hSw; (try dsimp only at hSw); go_simp; try with_reducible rfl)
    try simp only [Act.put, List.setIfInBounds_toArray, List.set_cons_zero, List.set_cons_succ]
    refine wpAnyH_take (i := 8) (v := ?va8) (List.getElem?_toArray.trans rfl) (by kernel_rfl) (by kernel_rfl) (by kernel_rfl) (fun _ _ _ h => h) (Or.inl ⟨by rfl, ?ya8⟩) (by assumption) ?ra8
    case ya8 => (intro w hSw; (try dsimp only at hSw); go_simp; try with_reducible rfl)
    try simp only [Act.put, List.setIfInBounds_toArray, List.set_cons_zero, List.set_cons_succ]
    refine wpAnyH_take (i := 9) (v := ?va9) (List.getElem?_toArray.trans rfl) (by kernel_rfl) (by kernel_rfl) (by kernel_rfl) (fun _ _ _ h => h) (Or.inl ⟨by rfl, ?ya9⟩) (by assumption) ?ra9
    case ya9 => (intro w hSw; (try dsimp only at hSw); go_simp; try with_reducible rfl)
    try simp only [Act.put, List.setIfInBounds_toArray, List.set_cons_zero, List.set_cons_succ]
    refine wpAnyH_take (i := 10) (v := .int .i64 t) (List.getElem?_toArray.trans rfl) (by kernel_rfl) (by kernel_rfl) (by kernel_rfl) (fun _ _ _ h => h) (Or.inl ⟨by rfl, ?ya10⟩) (by assumption) ?ra10
    case ya10 => (intro w hSw; (try dsimp only at hSw); go_simp; try simp [hSw])
    try simp only [Act.put, List.setIfInBounds_toArray, List.set_cons_zero, List.set_cons_succ]
    refine wpAnyH_ready (rs := [6]) (by kernel_rfl) (by simp) ?_
    refine AllReadyH.cons (List.getElem?_toArray.trans rfl) (fun K hK => ?_) AllReadyH.nil
    go_simp
    have hlook := HLOOK.out
    go_simp
    clear hlook
    have s9 : Wd.cell? ⟨b, 0, none⟩ = some (.map (some mb)) ∧ Wd.cell? ⟨b, 1, none⟩ = some (.int .i64 t) ∧ Wd.cell? ⟨w.heap.size, 0, none⟩ = some (.int .i64 A.f0) ∧ Wd.cell? ⟨w.heap.size, 1, none⟩ = some (.int .i64 A.f1) ∧ Wd.cell? ⟨w.heap.size, 2, none⟩ = some (.int .i64 A.f2) := ⟨qI.at rfl, qI.at rfl, qA.at rfl, qA.at rfl, qA.at rfl⟩
    refine hK.out _ _ s9 (fun hHeld => ?_)
    clear hK K
    try simp only [Act.put, List.setIfInBounds_toArray, List.set_cons_zero, List.set_cons_succ]
    refine wpAnyH_ready (rs := [11]) (by kernel_rfl) (by simp) ?_
    refine AllReadyH.cons (List.getElem?_toArray.trans rfl) (fun K hK => ?_) AllReadyH.nil
    go_simp
    go_at_call 95
    refine hans.mono ?_
    rintro e w6 ⟨x1, y1, rfl, ho6, hb6⟩
    have qI := Blk.below (w := Wd) qI hb6
    have qA := Blk.below (w := Wd) qA hb6
    have s9 : w6.cell? ⟨b, 0, none⟩ = some (.map (some mb)) ∧ w6.cell? ⟨b, 1, none⟩ = some (.int .i64 t) ∧ w6.cell? ⟨w.heap.size, 0, none⟩ = some (.int .i64 A.f0) ∧ w6.cell? ⟨w.heap.size, 1, none⟩ = some (.int .i64 A.f1) ∧ w6.cell? ⟨w.heap.size, 2, none⟩ = some (.int .i64 A.f2) := ⟨qI.at rfl, qI.at rfl, qA.at rfl, qA.at rfl, qA.at rfl⟩
    refine hK.out _ _ s9 (fun hHeld => ?_)
    clear hK K
    try simp only [Act.put, List.setIfInBounds_toArray, List.set_cons_zero, List.set_cons_succ]
    refine wpAnyH_take (i := 12) (v := ?va12) (List.getElem?_toArray.trans rfl) (by kernel_rfl) (by kernel_rfl) (by kernel_rfl) (fun _ _ _ h => h) (Or.inl ⟨by rfl, ?ya12⟩) (by assumption) ?ra12
    case ya12 => (intro w hSw; (try dsimp only at hSw); go_simp; try with_reducible rfl)
    try simp only [Act.put, List.setIfInBounds_toArray, List.set_cons_zero, List.set_cons_succ]
    refine wpAnyH_take (i := 13) (v := ?va13) (List.getElem?_toArray.trans rfl) (by kernel_rfl) (by kernel_rfl) (by kernel_rfl) (fun _ _ _ h => h) (Or.inl ⟨by rfl, ?ya13⟩) (by assumption) ?ra13
    case ya13 => (intro w hSw; (try dsimp only at hSw); go_simp; try with_reducible rfl)
    try simp only [Act.put, List.setIfInBounds_toArray, List.set_cons_zero, List.set_cons_succ]
    refine wpAnyH_ready (rs := [14]) (by kernel_rfl) (by simp) ?_
    refine AllReadyH.cons (List.getElem?_toArray.trans rfl) (fun K hK => ?_) AllReadyH.nil
    go_simp
    have o3 : w6.cell? ⟨b, 3, none⟩ = some (.int .i64 r.f0) := qI.at rfl
    have o4 : w6.cell? ⟨b, 4, none⟩ = some (.slice a r.f1.length d) := qI.at rfl
    have o5 : w6.cell? ⟨b, 5, none⟩ = some (.int .i64 r.f2.f0) := qI.at rfl
    have o6 : w6.cell? ⟨b, 6, none⟩ = some (.int .i64 r.f2.f1) := qI.at rfl
    have o7 : w6.cell? ⟨b, 7, none⟩ = some (.int .i64 r.f2.f2) := qI.at rfl
    have p3 := qI.free 3
    have p4 := qI.free 4
    have p5 := qI.free 5
    have p6 := qI.free 6
    have p7 := qI.free 7
    have hq6 : AdrRow w1.heap.size w6 (.slice xa' (n + 1) xc') (Q ++ [A]) := AdrRow.below (w := Wd) hq hb6
    have hnI := AdrRow.apart hq6 qI (by decide)
    have hbd : b < Wd.heap.size := by have := HBD.out; omega
    have hz6 := hb6.size
    have hZ : Zone b (b + 1) w6 (((((w6.setCell ⟨b, 3, none⟩ (.int .i64 R.f0)).setCell ⟨b, 4, none⟩ (.slice x1 R.f1.length y1)).setCell ⟨b, 5, none⟩ (.int .i64 R.f2.f0)).setCell ⟨b, 6, none⟩ (.int .i64 R.f2.f1)).setCell ⟨b, 7, none⟩ (.int .i64 R.f2.f2)) := by
      iterate 5 (refine Zone.setCell ?_ ⟨by omega, by omega⟩ _)
      exact Zone.refl _ _ _
    have hblF : Below w1.heap.size w1 (((((w6.setCell ⟨b, 3, none⟩ (.int .i64 R.f0)).setCell ⟨b, 4, none⟩ (.slice x1 R.f1.length y1)).setCell ⟨b, 5, none⟩ (.int .i64 R.f2.f0)).setCell ⟨b, 6, none⟩ (.int .i64 R.f2.f1)).setCell ⟨b, 7, none⟩ (.int .i64 R.f2.f2)) := by
      iterate 5 (refine Below.setCell ?_ (by dsimp only; omega) _)
      exact hbl.trans (hb6.mono hzd)
    have hqF := AdrRow.keep hq6 fun t e => hZ.block t (AdrRow.lt hq6 e).2 (by have := hnI t e; omega)
    have hoF := (OwnD.zone ho6 hZ (Or.inr (by omega))).more (Nat.le_refl _) hZ.size
    have hvd : ∀ t, (Value.slice xa' (n + 1) xc').ownBlock = some t → t < Wd.heap.size := fun t e => (AdrRow.lt hq e).2
    have qI := ((((qI.set 3 (.int .i64 R.f0)).set 4 (.slice x1 R.f1.length y1)).set 5 (.int .i64 R.f2.f0)).set 6 (.int .i64 R.f2.f1)).set 7 (.int .i64 R.f2.f2)
    have qA := ((((qA.other (a := ⟨b, 3, none⟩) (.int .i64 R.f0) (by dsimp only; omega)).other (a := ⟨b, 4, none⟩) (.slice x1 R.f1.length y1) (by dsimp only; omega)).other (a := ⟨b, 5, none⟩) (.int .i64 R.f2.f0) (by dsimp only; omega)).other (a := ⟨b, 6, none⟩) (.int .i64 R.f2.f1) (by dsimp only; omega)).other (a := ⟨b, 7, none⟩) (.int .i64 R.f2.f2) (by dsimp only; omega)
    go_simp
    have s9 : (((((w6.setCell ⟨b, 3, none⟩ (.int .i64 R.f0)).setCell ⟨b, 4, none⟩ (.slice x1 R.f1.length y1)).setCell ⟨b, 5, none⟩ (.int .i64 R.f2.f0)).setCell ⟨b, 6, none⟩ (.int .i64 R.f2.f1)).setCell ⟨b, 7, none⟩ (.int .i64 R.f2.f2)).cell? ⟨b, 0, none⟩ = some (.map (some mb)) ∧ (((((w6.setCell ⟨b, 3, none⟩ (.int .i64 R.f0)).setCell ⟨b, 4, none⟩ (.slice x1 R.f1.length y1)).setCell ⟨b, 5, none⟩ (.int .i64 R.f2.f0)).setCell ⟨b, 6, none⟩ (.int .i64 R.f2.f1)).setCell ⟨b, 7, none⟩ (.int .i64 R.f2.f2)).cell? ⟨b, 1, none⟩ = some (.int .i64 t) ∧ (((((w6.setCell ⟨b, 3, none⟩ (.int .i64 R.f0)).setCell ⟨b, 4, none⟩ (.slice x1 R.f1.length y1)).setCell ⟨b, 5, none⟩ (.int .i64 R.f2.f0)).setCell ⟨b, 6, none⟩ (.int .i64 R.f2.f1)).setCell ⟨b, 7, none⟩ (.int .i64 R.f2.f2)).cell? ⟨w.heap.size, 0, none⟩ = some (.int .i64 A.f0) ∧ (((((w6.setCell ⟨b, 3, none⟩ (.int .i64 R.f0)).setCell ⟨b, 4, none⟩ (.slice x1 R.f1.length y1)).setCell ⟨b, 5, none⟩ (.int .i64 R.f2.f0)).setCell ⟨b, 6, none⟩ (.int .i64 R.f2.f1)).setCell ⟨b, 7, none⟩ (.int .i64 R.f2.f2)).cell? ⟨w.heap.size, 1, none⟩ = some (.int .i64 A.f1) ∧ (((((w6.setCell ⟨b, 3, none⟩ (.int .i64 R.f0)).setCell ⟨b, 4, none⟩ (.slice x1 R.f1.length y1)).setCell ⟨b, 5, none⟩ (.int .i64 R.f2.f0)).setCell ⟨b, 6, none⟩ (.int .i64 R.f2.f1)).setCell ⟨b, 7, none⟩ (.int .i64 R.f2.f2)).cell? ⟨w.heap.size, 2, none⟩ = some (.int .i64 A.f2) := ⟨qI.at rfl, qI.at rfl, qA.at rfl, qA.at rfl, qA.at rfl⟩
    refine hK.out _ _ s9 (fun hHeld => ?_)
    clear hK K
    try simp only [Act.put, List.setIfInBounds_toArray, List.set_cons_zero, List.set_cons_succ]
    refine wpAnyH_done (by kernel_rfl) ?_ _
    go_wp2
    go_end0
    exact ⟨_, x1, y1, Wd.heap.size, rfl, qI, hqF, hvd, hbd, hoF, hblF⟩
end Go.Proofs.Ytagnhfalmefbhaa.Sites
namespace Go.Proofs.Ytagnhfalmefbhaa.Sites
open Go Go.RowKit Go.Proofs.Ytagnhfalmefbhaa.Mem Go.Proofs.Ytagnhfalmefbhaa.Gen Go.Proofs.Ytagnhfalmefbhaa.Adr Go.Proofs.Ytagnhfalmefbhaa.Res

def askedOf (w : World) (b : Nat) : Nat := lenOf ((w.cell? ⟨b, 2, none⟩).getD (.bool false))
theorem askedOf_of {w : World} {b n c : Nat} {a : Option Addr} (h : w.cell? ⟨b, 2, none⟩ = some (.slice a n c)) : askedOf w b = n := by
  unfold askedOf
  rw [h]
  rfl

set_option maxHeartbeats 8000000 in
set_option maxRecDepth 100000 in
theorem follow_impl (lo hi : Nat) (w : World) (L : Option Addr) (c : Nat) (l : List TVersion) (h : Lies lo hi w (dVersion l) (.slice L l.length c)) (hh : hi ≤ w.heap.size) (hm : room (dVersion l) ≤ 1048576) (A : TAddress) (hA : WfA A) (t : Int) :
    Calls Try.prog 43 #[.slice L l.length c, .agg #[.int .i64 A.f0, .int .i64 A.f1, .int .i64 A.f2], .int .i64 t] w (Handed w (followed l A t)) := by
  obtain ⟨R, hR⟩ : ∃ R, followed l A t = R := ⟨_, rfl⟩
  rw [hR]
  have HR := Lib.hid (show fol l t 4 [A] (answer l A t) = R from hR)
  have hwfA : ∀ B, WfA (answer l B t).f2 := fun B => ans_wf h B t
  have HWA := Lib.hid hwfA
  clear hR hwfA
  obtain ⟨W, hW⟩ : ∃ W, (w.alloc (.cells #[.int .i64 A.f0, .int .i64 A.f1, .int .i64 A.f2] 29)).alloc (.cells #[.int .i64 0, .slice none 0 0, .int .i64 0, .int .i64 0, .int .i64 0] 39) = W := ⟨_, rfl⟩
  have hB0 : Below w.heap.size w W := by rw [← hW]; exact ((Below.refl _ _).alloc (Nat.le_refl _) _).alloc (by rw [gsize_alloc]; omega) _
  have hs0 : W.heap.size = w.heap.size + 2 := by rw [← hW]; simp only [gsize_alloc]
  have qA : Blk 29 w.heap.size (adrCells A) W := by rw [← hW]; exact (Blk.new _ (adrCells A) w).alloc _
  have qR : Blk 39 (w.heap.size + 1) (resCells ⟨0, [], ⟨0, 0, 0⟩⟩ none 0) W := by rw [← hW]; have := Blk.new 39 (resCells ⟨0, [], ⟨0, 0, 0⟩⟩ none 0) (w.alloc (.cells #[.int .i64 A.f0, .int .i64 A.f1, .int .i64 A.f2] 29)); rw [gsize_alloc] at this; exact this
  have hP := pasts_of lo hi W L c l (h.under hB0 hh) (by omega) hm
  have HW := Lib.hid hW
  clear hW
  go_enter Try.func43, Try.ntmps43
  go_upto_region 1 with fail
  rw [HW.out]
  go_wp2_with fail
  go_at_call 76
  refine hP.mono ?_
  rintro e w1 ⟨F, rfl, hp1, hg1, hb1⟩
  have hz1 := hb1.size
  have hmb := hp1.lt
  have hbw1 : Below w.heap.size w w1 := hB0.trans (hb1.mono (by omega))
  have qA1 := qA.below hb1
  have qR1 := qR.below hb1
  obtain ⟨mb, hmbe⟩ : ∃ mb, W.heap.size = mb := ⟨_, rfl⟩
  have hg1' := hg1
  rw [hmbe] at hp1 hg1 ⊢
  obtain ⟨W2, hW2⟩ : ∃ W2, w1.alloc (.cells #[.map (some mb), .int .i64 t, .slice none 0 0, .int .i64 0, .slice none 0 0, .int .i64 0, .int .i64 0, .int .i64 0] 109) = W2 := ⟨_, rfl⟩
  have hb2 : Below w1.heap.size w1 W2 := by rw [← hW2]; exact (Below.refl _ _).alloc (Nat.le_refl _) _
  have qI : Blk 109 w1.heap.size (inqCells mb t (.slice none 0 0) ⟨0, [], ⟨0, 0, 0⟩⟩ none 0) W2 := by rw [← hW2]; exact Blk.new _ (inqCells mb t (.slice none 0 0) ⟨0, [], ⟨0, 0, 0⟩⟩ none 0) w1
  have qA2 := qA1.below hb2
  have a0 : W2.cell? ⟨w.heap.size, 0, none⟩ = some (.int .i64 A.f0) := qA2.at rfl
  have a1 : W2.cell? ⟨w.heap.size, 1, none⟩ = some (.int .i64 A.f1) := qA2.at rfl
  have a2 : W2.cell? ⟨w.heap.size, 2, none⟩ = some (.int .i64 A.f2) := qA2.at rfl
  have hAsk := fun (w' : World) (hbl : Below w1.heap.size w1 w') => ask_impl lo hi mb mb l.length w1 w' F l hp1 hg1 (by omega) hm hbl w1.heap.size (Nat.le_refl _) t
  have hA1 := hAsk W2 hb2 _ [] ⟨0, [], ⟨0, 0, 0⟩⟩ none 0 qI (AdrRow.void _ _) (by simp) A hA
  obtain ⟨ra, hra⟩ : ∃ r, answer l A t = r := ⟨_, rfl⟩
  have HR1 := HR.out
  rw [hra] at hA1 HR1
  have HEX := Lib.hid (show ∃ B, ra = answer l B t from ⟨A, hra.symm⟩)
  have HR1 := Lib.hid HR1
  have HW2 := Lib.hid hW2
  have HS0 := Lib.hid hs0
  have hz1' : w.heap.size + 2 ≤ w1.heap.size := by omega
  clear hW2 hra hmbe hs0 hg1' hP hp1 hg1 qA qR qA1 qA2
  go_upto_region 2 with fail
  rw [HW2.out]
  go_wp2_with fail
  go_at_call 77
  refine hA1.mono ?_
  rintro e w3 ⟨v3, x3, y3, m3, rfl, qI3, hq3, hv3, hbm3, ho3, hbl3⟩
  clear hA1 a0 a1 a2 qI
  go_wp2_with fail
  go_loopw [] (fun wr => ∃ (Q : List TAddress) (r : TResource) (k : Nat) (v : Value) (a : Option Addr) (d m : Nat), Hid (fol l t k Q r = R) ∧ Q.length + k = 5 ∧ 1 ≤ Q.length ∧ (∃ B, r = answer l B t) ∧ AdrRow w1.heap.size wr v Q ∧ (∀ B ∈ Q, WfA B) ∧ (∀ t, v.ownBlock = some t → t < m) ∧ w1.heap.size < m ∧ Blk 109 w1.heap.size (inqCells mb t v r a d) wr ∧ OwnD m wr.heap.size wr (ints r.f1) (.slice a r.f1.length d) ∧ Below w1.heap.size w1 wr) (fun wr => 5 - askedOf wr w1.heap.size)
  case atStart => exact ⟨[A], ra, 4, v3, x3, y3, m3, HR1, rfl, Nat.le_refl _, HEX.out, hq3, fun B hB => by rw [List.mem_singleton.1 hB]; exact hA, hv3, hbm3, qI3, ho3, hbl3⟩
  case round =>
    obtain ⟨Q, r, k, v, a, d, m, hf, hk, hn1, hex, hq, hwq, hvm, hbm, qI, ho, hbl⟩ := hrel
    clear qI3 hq3 hv3 hbm3 ho3 hbl3
    obtain ⟨xa, xc, rfl, hq1, hq2⟩ := hq.shape
    have hbs := hbl.size
    have hwr : WfA r.f2 := by obtain ⟨B, e⟩ := hex; rw [e]; exact HWA.out B
    have HEX := Lib.hid hex
    clear hex
    have hCan := can_follow wr w1.heap.size mb t xa xc Q r a d qI (hq.lies hwq) (by omega) hn1
    obtain ⟨n, hn⟩ : ∃ n, Q.length = n := ⟨_, rfl⟩
    obtain ⟨M, hM⟩ : ∃ M, moves Q r = M := ⟨_, rfl⟩
    rw [hM] at hCan
    rw [hn] at hq1 hvm hk hq qI hn1
    have HN := Lib.hid hn
    have hmeas : askedOf wr w1.heap.size = n := askedOf_of (qI.at rfl)
    cases M with
    | true =>
      obtain ⟨k', hk', hf'⟩ := fol_step hM (by rw [HN.out]; exact hk) hf.out
      rw [HN.out] at hk'
      have HF := Lib.hid hf'
      clear hf' hM hn hf
      go_wp2_with fail
      go_at_call 78
      refine hCan.mono ?_
      rintro e wH ⟨rfl, hbH⟩
      have qI := qI.below hbH
      have hq : AdrRow w1.heap.size wH (.slice xa n xc) Q := AdrRow.below hq hbH
      have hblH := hbl.trans (hbH.mono hbs)
      have o2 : wH.cell? ⟨w1.heap.size, 5, none⟩ = some (.int .i64 r.f2.f0) := qI.at rfl
      have o3 : wH.cell? ⟨w1.heap.size, 6, none⟩ = some (.int .i64 r.f2.f1) := qI.at rfl
      have o4 : wH.cell? ⟨w1.heap.size, 7, none⟩ = some (.int .i64 r.f2.f2) := qI.at rfl
      have hA1 := hAsk wH hblH _ Q r a d qI hq (by rw [HN.out]; omega) r.f2 hwr
      obtain ⟨r2, hr2⟩ : ∃ r2, answer l r.f2 t = r2 := ⟨_, rfl⟩
      have HEX2 := Lib.hid (show ∃ B, r2 = answer l B t from ⟨_, hr2.symm⟩)
      have HF := HF.out
      rw [hr2] at hA1 HF
      have HF := Lib.hid HF
      clear hr2 hCan hAsk ho
      go_wp2_with fail
      go_at_call 77
      refine hA1.mono ?_
      rintro e w5 ⟨v5, x5, y5, m5, rfl, qI5, hq5, hv5, hbm5, ho5, hbl5⟩
      clear o2 o3 o4 qI hq hA1
      obtain ⟨xa5, xc5, e5, _, _⟩ := hq5.shape
      subst e5
      have hmeas5 : askedOf w5 w1.heap.size = (Q ++ [r.f2]).length := askedOf_of (qI5.at rfl)
      go_wp2_with fail
      go_roundw
      case rel =>
        refine ⟨Q ++ [r.f2], r2, k', _, x5, y5, m5, HF, by rw [List.length_append, HN.out]; exact hk', by simp, HEX2.out, hq5, fun B hB => ?_, hv5, hbm5, qI5, ho5, hbl5⟩
        rcases List.mem_append.1 hB with hB | hB
        · exact hwq B hB
        · rw [List.mem_singleton.1 hB]; exact hwr
      case measure =>
        rw [hmeas, hmeas5, List.length_append, HN.out, List.length_singleton]
        omega
    | false =>
      have hR2 := hf.out
      rw [fol_stop hM] at hR2
      have HR2 := Lib.hid hR2
      clear hR2 hf hM hAsk hn
      go_wp2_with fail
      go_at_call 78
      refine hCan.mono ?_
      rintro e wH ⟨rfl, hbH⟩
      have qI := qI.below hbH
      have hq : AdrRow w1.heap.size wH (.slice xa n xc) Q := AdrRow.below hq hbH
      have ho := (OwnD.under ho hbH (Nat.le_refl _)).more (Nat.le_refl _) hbH.size
      have hbl := hbl.trans (hbH.mono hbs)
      have hzH := hbH.size
      have qR : Blk 39 (w.heap.size + 1) (resCells ⟨0, [], ⟨0, 0, 0⟩⟩ none 0) wH := (hbl.block _ (by omega)).trans qR1
      clear hCan hmeas
      go_upto_region 5 with fail
      have o3 : wH.cell? ⟨w1.heap.size, 3, none⟩ = some (.int .i64 r.f0) := qI.at rfl
      have o4 : wH.cell? ⟨w1.heap.size, 4, none⟩ = some (.slice a r.f1.length d) := qI.at rfl
      have o5 : wH.cell? ⟨w1.heap.size, 5, none⟩ = some (.int .i64 r.f2.f0) := qI.at rfl
      have o6 : wH.cell? ⟨w1.heap.size, 6, none⟩ = some (.int .i64 r.f2.f1) := qI.at rfl
      have o7 : wH.cell? ⟨w1.heap.size, 7, none⟩ = some (.int .i64 r.f2.f2) := qI.at rfl
      have o2 : wH.cell? ⟨w1.heap.size, 2, none⟩ = some (.slice xa n xc) := qI.at rfl
      have r0 : wH.cell? ⟨w.heap.size + 1, 0, none⟩ = some (.int .i64 0) := qR.at rfl
      have r1 : wH.cell? ⟨w.heap.size + 1, 1, none⟩ = some (.slice none 0 0) := qR.at rfl
      have r2 : wH.cell? ⟨w.heap.size + 1, 2, none⟩ = some (.int .i64 0) := qR.at rfl
      have r3 : wH.cell? ⟨w.heap.size + 1, 3, none⟩ = some (.int .i64 0) := qR.at rfl
      have r4 : wH.cell? ⟨w.heap.size + 1, 4, none⟩ = some (.int .i64 0) := qR.at rfl
      have p0 := qR.free 0
      have p1 := qR.free 1
      have p2 := qR.free 2
      have p3 := qR.free 3
      have p4 := qR.free 4
      have hZ : Zone (w.heap.size + 1) (w.heap.size + 2) wH (((((wH.setCell ⟨w.heap.size + 1, 0, none⟩ (.int .i64 r.f0)).setCell ⟨w.heap.size + 1, 1, none⟩ (.slice a r.f1.length d)).setCell ⟨w.heap.size + 1, 2, none⟩ (.int .i64 r.f2.f0)).setCell ⟨w.heap.size + 1, 3, none⟩ (.int .i64 r.f2.f1)).setCell ⟨w.heap.size + 1, 4, none⟩ (.int .i64 r.f2.f2)) := by
        iterate 5 (refine Zone.setCell ?_ ⟨by omega, by omega⟩ _)
        exact Zone.refl _ _ _
      have hbF : Below w.heap.size w (((((wH.setCell ⟨w.heap.size + 1, 0, none⟩ (.int .i64 r.f0)).setCell ⟨w.heap.size + 1, 1, none⟩ (.slice a r.f1.length d)).setCell ⟨w.heap.size + 1, 2, none⟩ (.int .i64 r.f2.f0)).setCell ⟨w.heap.size + 1, 3, none⟩ (.int .i64 r.f2.f1)).setCell ⟨w.heap.size + 1, 4, none⟩ (.int .i64 r.f2.f2)) := by
        iterate 5 (refine Below.setCell ?_ (by dsimp only; omega) _)
        exact hbw1.trans (hbl.mono (by omega))
      have qF := ((((qR.set 0 (.int .i64 r.f0)).set 1 (.slice a r.f1.length d)).set 2 (.int .i64 r.f2.f0)).set 3 (.int .i64 r.f2.f1)).set 4 (.int .i64 r.f2.f2)
      have hqF := AdrRow.keep hq fun t e => hZ.block t (AdrRow.lt hq e).2 (by have := (AdrRow.lt hq e).1; omega)
      have hoF := OwnD.zone ho hZ (Or.inr (by omega))
      have g0 := qF.at (x := 0) rfl
      have g1 := qF.at (x := 1) rfl
      have g2 := qF.at (x := 2) rfl
      have g3 := qF.at (x := 3) rfl
      have g4 := qF.at (x := 4) rfl
      have hzF := hZ.size
      go_region
      all_goals
        go_wp2
        refine bodyPost_ret (v := .tuple #[.agg #[.int .i64 r.f0, .slice a r.f1.length d, .int .i64 r.f2.f0, .int .i64 r.f2.f1, .int .i64 r.f2.f2], .slice xa n xc]) (by simp [results, Try.results43, go_sem, g0, g1, g2, g3, g4]) rfl ?_
        obtain rfl : n = Q.length := HN.out.symm
        rw [← HR2.out]
        refine ⟨a, d, Span m wH.heap.size, xa, xc, _, rfl, Owns.drewN hoF 1, (hqF.owns hwq).drewN 1, fun t ht => ?_, fun t ht => ⟨by have := (hqF.lt ht).1; omega, (hqF.lt ht).2⟩, fun t ht e => ?_, gbelow_drewN hbF 1⟩
        · refine ⟨by have := ht.1; omega, ?_⟩
          have := ht.2
          show t < (((((wH.setCell ⟨w.heap.size + 1, 0, none⟩ (.int .i64 r.f0)).setCell ⟨w.heap.size + 1, 1, none⟩ (.slice a r.f1.length d)).setCell ⟨w.heap.size + 1, 2, none⟩ (.int .i64 r.f2.f0)).setCell ⟨w.heap.size + 1, 3, none⟩ (.int .i64 r.f2.f1)).setCell ⟨w.heap.size + 1, 4, none⟩ (.int .i64 r.f2.f2)).heap.size
          omega
        · have := hvm t e; have := ht.1; omega
end Go.Proofs.Ytagnhfalmefbhaa.Sites
