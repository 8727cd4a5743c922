/-
  The draw of an older and a newer body.
  Conditions: the bytes are in memory.
-/
import Derived.Test.YtkjglmfnlpapbaaDrawOnce
import Derived.Test.YtkjglmfnlpapbaaDrawOwn
import Derived.Test.YtkjglmfnlpapbaaDrawAny4
import Derived.Test.YtkjglmfnlpapbaaAdr
import Derived.Test.YtkjglmfnlpapbaaInts
import Derived.Test.YtkjglmfnlpapbaaStep
import Derived.Test.YtkjglmfnlpapbaaRowCut
import Derived.Maps.AppendAt
import Derived.Deep.CutBlock
import Derived.Deep.DeepCutAuto
import Derived.Deep.RegionHeld3
namespace Go.Proofs.Ytkjglmfnlpapbaa.Draw
open Go Go.RowKit Go.Proofs.Ytkjglmfnlpapbaa.Mem Go.Proofs.Ytkjglmfnlpapbaa.Adr

/-- Numbers that fit. -/
@[irreducible] def Fit (zs : List Int) : Prop := ∀ z ∈ zs, (Lit.int .i64 z).wf = true
theorem Fit.out {zs : List Int} (h : Fit zs) : ∀ z ∈ zs, (Lit.int .i64 z).wf = true := by unfold Fit at h; exact h
theorem Fit.nil : Fit [] := by unfold Fit; simp
theorem Fit.snoc {zs : List Int} (h : Fit zs) (q : Int) (h0 : 0 ≤ q) (h1 : q ≤ 1000) : Fit (zs ++ [q]) := by
  unfold Fit at *
  intro z hz
  rcases List.mem_append.1 hz with hz | hz
  · exact h z hz
  · simp at hz; subst hz; exact WalkArith.wf_i64 (by omega)
theorem Fit.set {zs : List Int} (h : Fit zs) (i : Nat) (q : Int) (h0 : 0 ≤ q) (h1 : q ≤ 1000) : Fit (zs.set i q) := by
  unfold Fit at *
  intro z hz
  rcases List.mem_or_eq_of_mem_set hz with hz | rfl
  · exact h z hz
  · exact WalkArith.wf_i64 (by omega)
theorem Fit.take {zs : List Int} (h : Fit zs) (k : Nat) : Fit (zs.take k) := by
  unfold Fit at *
  exact fun z hz => h z (List.mem_of_mem_take hz)
theorem Fit.split {zs : List Int} (h : Fit zs) (k : Nat) (q : Int) (h0 : 0 ≤ q) (h1 : q ≤ 1000) : Fit (zs.take k ++ ([q] ++ zs.drop k)) := by
  unfold Fit at *
  intro z hz
  rcases List.mem_append.1 hz with hz | hz
  · exact h z (List.mem_of_mem_take hz)
  · rcases List.mem_append.1 hz with hz | hz
    · simp at hz; subst hz; exact WalkArith.wf_i64 (by omega)
    · exact h z (List.mem_of_mem_drop hz)
section
variable {k : IntKind} {e : TypeId} {base n g c : Nat} {w : World} {zs : List Int}
theorem OwnI.cut {A : Option Addr} (h : OwnI k e base w (.slice A n c) n zs) {j : Nat} (hj : j ≤ n) : OwnI k e base w (.slice A j c) j (zs.take j) := by
  unfold OwnI at *
  have h1 := h.1
  simp only [List.length_map, Nat.mul_one] at h1
  refine ⟨by simp; omega, ?_⟩
  rcases h.2 with ⟨e1, rfl⟩ | ⟨g, cap, cur, e1, hb, hg, hnc, hcm, hcs, ht⟩
  · injection e1 with e2 _ e3
    subst e2 e3
    left
    rw [show j = 0 by omega]
    exact ⟨rfl, rfl⟩
  · injection e1 with e2 _ e3
    subst e2 e3
    refine .inr ⟨g, c, cur, rfl, hb, hg, by omega, hcm, hcs, ?_⟩
    rw [List.map_take, ← ht, List.take_take]
    congr 1
    omega
theorem OwnI.put (h : OwnI k e base w (.slice (some ⟨g, 0, none⟩) n c) n zs) (j : Nat) (q : Int) : OwnI k e base (w.setCell ⟨g, j, none⟩ (.int k q)) (.slice (some ⟨g, 0, none⟩) n c) n (zs.set j q) ∧ Below base w (w.setCell ⟨g, j, none⟩ (.int k q)) := by
  unfold OwnI at *
  obtain ⟨h1, _⟩ := World.ownsRow.stored h j (.int k q)
  refine ⟨by rw [List.map_set]; exact h1, (Below.refl _ _).setCell ?_ _⟩
  exact (World.ownsRow.lt h g rfl).1
end

set_option maxRecDepth 100000 in
theorem cut_fore (w : World) (a : Option Addr) (n c j : Nat) (h : j ≤ c) : (Instr.slice 24 (.slice a n c) none (some (.int .i64 (j : Int))) none).run Try.prog w = .ok (.slice a j c) w := by
  obtain ⟨i0, hi0, hz0, hz1, hz2⟩ := info_parts Nts.info
  simp [Instr.slice, run_underlying Try.underlying24, Instr.sliceBounds, Instr.sliceBound, sizeOf, typeInfo, hi0, go_sem]
  exact fun h' => absurd h' (by omega)

/-- An append of a row onto a row of the call's own, in a region that draws: where the new one lies. -/
theorem step_append_row_at {P : Program} {ops : Array Oper} {o : Oper} {a : Act} {w : World} {K : Act → World → Prop} {Q : Exit → Act → World → Prop} {E : Prop} {k : IntKind} (hgd : o.guard = none) (s x : Operand) (t : TypeId)
    (ho : o.op = .call { callee := .builtin .append, args := #[s, x], argTypes := #[t, t] })
    (base e : Nat) (i : TypeInfo) (z : Value) (bytes : Nat) (ht : P.underlying t = some (.slice e)) (hi : P.info? e = some i) (hz : i.zero = some z)
    (hsize : i.size = 1) (hby : i.bytes = bytes) (hzs : z.cells.size = 1)
    (v : Value) (n : Nat) (xs : List Int) (hs : a.eval s = v) (hown : OwnI k e base w v n xs)
    (lo hi' : Nat) (A : Option Addr) (m c : Nat) (zs : List Int) (hx : a.eval x = .slice A m c) (hr : Row k lo hi' w A m zs)
    (h63 : n + m ≤ maxLen) (hbytes : (n + m) * bytes ≤ 140737488355328) (hbase : base ≤ w.heap.size)
    (h : ∀ v' w', OwnI k e base w' v' (n + m) (xs ++ zs) → w.grownBy w' v.ownBlock → (v'.ownBlock = v.ownBlock ∨ v'.ownBlock = some w.heap.size) → K (a.put o.dst v') w') :
    if Region.wanted o (yielded ops a.tmps) = true then Oper.wp P o a w K Q else E := by
  have hw : Region.wanted o (yielded ops a.tmps) = true := by simp [Region.wanted, hgd]
  rw [if_pos hw]
  have hl := hr.len
  rcases A with _ | ad
  · have hm : m = 0 := by
      rcases Nat.eq_zero_or_pos m with h0 | h0
      · exact h0
      · obtain ⟨b, off, h, _⟩ := hr.here h0; cases h
    subst hm
    obtain rfl := List.eq_nil_of_length_eq_zero hl
    have hrun := run_append_none (P := P) t o.type i ht hi c hown
    unfold Oper.wp
    simp only [execOp, ho, resolve, invoke, builtin, Sem.run_bind, Sem.run_pure, Result.andThen_ok, List.map_toArray, List.map_cons, List.map_nil, hs, hx, hrun]
    exact h v w (by simpa using hown) ⟨rfl, rfl, rfl, Nat.le_refl _, fun _ _ _ => rfl⟩ (.inl rfl)
  · obtain ⟨v', w', hrun, h2, h3, _, h5⟩ := run_append_own_at (P := P) w base t o.type e i z 1 bytes ht hi hz hsize hby hzs (by omega) v n _ hown ad m c (zs.map (Value.int k)) (by simpa using hl) (fun j u hu => by
      have hj : j < m := by
        have := (List.getElem?_eq_some_iff.1 hu).1
        simp at this; omega
      obtain ⟨b, off, hab, _, _, hc⟩ := hr.cell hj
      injection hab with hab
      subst hab
      rw [getD_map_int _ _ _ (by omega)] at hu
      injection hu with hu
      subst hu
      rw [add_pl]; exact hc) (ints_oneCell k zs) h63 hbytes hbase
    unfold Oper.wp
    simp only [execOp, ho, resolve, invoke, builtin, Sem.run_bind, Sem.run_pure, Result.andThen_ok, List.map_toArray, List.map_cons, List.map_nil, hs, hx, hrun]
    exact h v' w' (by unfold OwnI; rw [List.map_append]; exact h2) h3 h5
theorem ownI_base {k : IntKind} {e base base' n : Nat} {w : World} {v : Value} {zs : List Int} (h : OwnI k e base w v n zs) (hb : base' ≤ base) : OwnI k e base' w v n zs :=
  ⟨h.1, h.2.imp id (fun ⟨g, cap, cur, hv, hb', rest⟩ => ⟨g, cap, cur, hv, Nat.le_trans hb hb', rest⟩)⟩
theorem OwnI.apart {k : IntKind} {e base n : Nat} {w w' : World} {v : Value} {zs : List Int} {row : Option Nat} (h : OwnI k e base w v n zs) (hg : w.grownBy w' row) (hne : ∀ b, v.ownBlock = some b → row ≠ some b) : OwnI k e base w' v n zs := by
  rcases h.2 with ⟨rfl, rfl⟩ | ⟨g, cap, cur, rfl, hb, hgg, rest⟩
  · exact ⟨h.1, .inl ⟨rfl, rfl⟩⟩
  · refine ⟨h.1, .inr ⟨g, cap, cur, rfl, hb, ?_, rest⟩⟩
    rw [hg.block g (Array.getElem?_eq_some_iff.1 hgg).1 (fun e => hne g rfl e.symm)]
    exact hgg
set_option maxRecDepth 100000 in
theorem cut_aft (w : World) (a : Option Addr) (n c j : Nat) (h : j ≤ n) : (Instr.slice 24 (.slice a n c) (some (.int .i64 (j : Int))) none none).run Try.prog w = .ok (.slice (if c = j then a else a.map (·.add j)) (n - j) (c - j)) w := by
  obtain ⟨i0, hi0, hz0, hz1, hz2⟩ := info_parts Nts.info
  simp [Instr.slice, run_underlying Try.underlying24, Instr.sliceBounds, Instr.sliceBound, sizeOf, typeInfo, hi0, go_sem, hz1]
  exact fun h' => absurd h' (by omega)
theorem Row.fore {k : IntKind} {lo hi n j : Nat} {w : World} {a : Option Addr} {zs : List Int} (h : Row k lo hi w a n zs) (hj : j ≤ n) : Row k lo hi w a j (zs.take j) := by
  have hl := h.len
  refine ⟨by simp; omega, fun z hz => h.wf z (List.mem_of_mem_take hz), fun hp => ?_⟩
  obtain ⟨b, off, e1, e2, e3, e4⟩ := h.here (by omega)
  refine ⟨b, off, e1, e2, e3, fun t ht => ?_⟩
  rw [e4 t (by omega)]
  simp only [List.getD_eq_getElem?_getD]
  rw [List.getElem?_take_of_lt ht]

def lenV : Value → Nat
  | .slice _ n _ => n
  | _ => 0

theorem Row.on {k : IntKind} {lo hi n p : Nat} {w w' : World} {a : Option Addr} {zs : List Int} (h : Row k lo hi w a n zs) (ho : Only p w w') (hp : p < lo) : Row k lo hi w' a n zs := h.keep fun i h0 h1 _ => ho.block i h0 (by omega)

/-- Two bodies, drawn. -/
def IsPair (B p : Nat) (w : World) (e : Ending) (w' : World) : Prop :=
  ∃ a n c xs b m d ys, e = .returned (.tuple #[.slice a n c, .slice b m d]) ∧ Row .i64 w.heap.size w'.heap.size w' a n xs ∧ Row .i64 w.heap.size w'.heap.size w' b m ys ∧ n ≤ 8 ∧ m ≤ 101 ∧ n ≤ c ∧ m ≤ d ∧ Cur 61 B p w' ∧ Only p w w'

set_option maxHeartbeats 4000000 in
set_option maxRecDepth 100000 in
theorem pair8 (B p : Nat) (w : World) (hc : Cur 61 B p w) :
    Calls Try.prog 30 #[.pointer (some ⟨p, 0, none⟩)] w (IsPair B p w) := by
  obtain ⟨i0, hi0, hz0, hz1, hz2⟩ := info_parts Nts.info
  have hp := hc.lt
  have h0 := OwnI.made .i64 3 (base := w.heap.size) w (Nat.le_refl _)
  have hA : Below w.heap.size w (w.alloc (.cells #[] 3)) := (Below.refl _ _).alloc (Nat.le_refl _) _
  have hcA := hc.below hA
  have hoA : Only p w (w.alloc (.cells #[] 3)) := Only.of_below hA
  go_enter Try.func30, Try.ntmps30
  go_wp2_with fail
  go_at_call 40
  refine (below_any B p 9 _ hcA (by omega) (by omega)).mono ?_
  rintro e w1 ⟨⟨y, hy, rfl⟩, hc1, ho1⟩
  have hy' : y ≤ 8 := by simp at hy; omega
  have h1 := Only.own h0 ho1 hp
  have hoB := hoA.trans ho1
  clear h0 hA hcA hoA ho1 hy hc
  go_upto_block 0 with fail
  go_cut [4, 5] (fun s s5 wx => ∃ n zs, OwnI .i64 3 w.heap.size wx s n zs ∧ n ≤ 8 ∧ Fit zs ∧ Cur 61 B p wx ∧ Only p w wx)
  case first =>
    go_wp2_with fail
    go_loopw [4, 5] (fun v i wr => ∃ (k : Nat) (zs : List Int), i = .int .i64 k ∧ OwnI .i64 3 w.heap.size wr v zs.length zs ∧ zs.length + k ≤ 8 ∧ Fit zs ∧ Cur 61 B p wr ∧ Only p w wr) (fun _ i _ => (Go.RowKit.intOf i).toNat)
    case atStart => exact ⟨y, [], rfl, h1, by simpa using hy', Fit.nil, hc1, hoB⟩
    case round =>
      obtain ⟨k, zs, rfl, hv, hk, hf, hcr, hor⟩ := hrel
      clear h1 hc1 hoB
      obtain ⟨va, vc, rfl, _, _, _⟩ := hv.own hf.out
      by_cases hk0 : 0 < k
      · have hg : decide ((k : Int) > 0) = true := by simp; omega
        have hg2 : decide ((0 : Int) < k) = true := by simp; omega
        have hsr := hor.size
        go_wp2_with fail
        go_at_call 40
        refine (below_any B p 3 _ hcr (by omega) (by omega)).mono ?_
        rintro e w2 ⟨⟨x, hx, rfl⟩, hc2, ho2⟩
        have hx' : x ≤ 2 := by simp at hx; omega
        have hs2 := ho2.size
        have hv2 := (Only.own hv ho2 hp).alloc (.cells #[.int .i64 x] 3)
        have hA : Below w2.heap.size w2 (w2.alloc (.cells #[.int .i64 x] 3)) := (Below.refl _ _).alloc (Nat.le_refl _) _
        have hcA := hc2.below hA
        have hoA := (hor.trans ho2).trans (Only.of_below hA)
        have hsA := hA.size
        have hcell : (w2.alloc (.cells #[.int .i64 x] 3)).cell? ⟨w2.heap.size, 0, none⟩ = some (.int .i64 x) := by rw [World.cell?_alloc_mark w2 _ _ (0, 0) 0]; rfl
        clear hv hcr hor hc2 ho2 hA
        go_wp2_with (at_builtin; refine wpList_append_one rfl _ _ 24 rfl w.heap.size 3 i0 _ 8 Try.underlying24 hi0 hz0 hz1 hz2 rfl _ zs.length zs rfl hv2 w2.heap.size 1 x rfl hcell ?c1 ?c2 ?c3 ?_; (case c1 => unfold maxLen; omega); (case c2 => omega); (case c3 => omega); intro v3 w3 hv3 hb3)
        have hl3 := hv3.len
        rw [← hl3] at hv3
        have hc3 := hcA.under hb3 hp
        have ho3 := hoA.under hb3 (Nat.le_refl _)
        go_roundw
        case rel => exact ⟨k - 1, zs ++ [(x : Int)], by go_num, hv3, by omega, hf.snoc _ (by omega) (by omega), hc3, ho3⟩
        case measure => simp [Go.RowKit.intOf]; omega
      · have hg : decide ((k : Int) > 0) = false := by simp; omega
        have hg2 : decide ((0 : Int) < k) = false := by simp; omega
        go_wp2_with fail
        go_meet
        case rel => exact ⟨_, zs, hv, by omega, hf, hcr, hor⟩
  case rest =>
  obtain ⟨wa, hwa⟩ : ∃ wa, wa = wc := ⟨_, rfl⟩
  subst hwa
  obtain ⟨n, zs, hv, hn, hf, hcr, hor⟩ := hcut
  obtain ⟨va, vc, rfl, hvc, hvm, hvo⟩ := hv.own hf.out
  have hsr := hor.size
  have hra := hvo.row
  obtain ⟨W, hW⟩ : ∃ W, W = wa.alloc (.cells #[] 3) := ⟨_, rfl⟩
  have hA : Below wa.heap.size wa W := by rw [hW]; exact (Below.refl _ _).alloc (Nat.le_refl _) _
  have hsA := hA.size
  have h0 : OwnI .i64 3 wa.heap.size W (.slice (some ⟨wa.heap.size, 0, none⟩) 0 0) 0 [] := by rw [hW]; exact OwnI.made .i64 3 (base := wa.heap.size) wa (Nat.le_refl _)
  have hrA := hra.below hA
  have hcA := hcr.below hA
  have hoA := hor.trans (Only.of_below hA)
  subst hW
  clear hv hvo h1 hc1 hoB hy' hA
  go_upto_region 7 with (at_builtin; refine wpList_append_row rfl _ _ 24 rfl wa.heap.size 3 i0 _ 8 Try.underlying24 hi0 hz0 hz1 hz2 rfl _ 0 [] rfl h0 w.heap.size wa.heap.size va n vc zs rfl hrA ?c1 ?c2 ?c3 ?_; (case c1 => unfold maxLen; omega); (case c2 => omega); (case c3 => exact hsA); intro v2 w2 ho2 hb2; rw [Nat.zero_add, List.nil_append] at ho2; obtain ⟨vb, db, rfl, hbc, hbm, hbo⟩ := ho2.own hf.out)
  have hs2 := hb2.size
  have hr2 := hrA.under hb2 (Nat.le_refl _)
  have hc2 := hcA.under hb2 (by omega)
  have ho3 := hoA.under hb2 hsr
  clear hrA hcA hoA hcr hor hra h0 hbo
  go_wp2_with fail
  go_at_call 40
  refine (below_any B p 5 _ hc2 (by omega) (by omega)).mono ?_
  rintro e w3 ⟨⟨z, hz, rfl⟩, hc3, ho4⟩
  have hs3 := ho4.size
  have hr3 := Row.on hr2 ho4 hp
  have hb3 := Only.own ho2 ho4 (show p < wa.heap.size by omega)
  have ho5 := ho3.trans ho4
  have hl := hb3.len
  clear hr2 hc2 ho3 ho4 ho2 hb2
  go_upto_block 2 with fail
  go_cut [6] (fun s wx => ∃ k bs, OwnI .i64 3 wa.heap.size wx s k bs ∧ k ≤ 10 ∧ Fit bs ∧ Row .i64 w.heap.size wa.heap.size wx va n zs ∧ Cur 61 B p wx ∧ Only p w wx ∧ wa.heap.size ≤ wx.heap.size)
  case first =>
    by_cases z0 : z = 0
    · subst z0
      have hbA := hb3.alloc (.cells #[.int .i64 7] 3)
      have hA : Below w3.heap.size w3 (w3.alloc (.cells #[.int .i64 7] 3)) := (Below.refl _ _).alloc (Nat.le_refl _) _
      have hcA := hc3.below hA
      have hoA := ho5.trans (Only.of_below hA)
      have hrA := hr3.below hA
      have hsA := hA.size
      have hcell : (w3.alloc (.cells #[.int .i64 7] 3)).cell? ⟨w3.heap.size, 0, none⟩ = some (.int .i64 7) := by rw [World.cell?_alloc_mark w3 _ _ (0, 0) 0]; rfl
      clear hA hc3 ho5 hr3 hb3
      go_wp2_with (at_builtin; refine wpList_append_one rfl _ _ 24 rfl wa.heap.size 3 i0 _ 8 Try.underlying24 hi0 hz0 hz1 hz2 rfl _ n zs rfl hbA w3.heap.size 1 7 rfl hcell ?c1 ?c2 ?c3 ?_; (case c1 => unfold maxLen; omega); (case c2 => omega); (case c3 => omega); intro v4 w4 ho6 hb4)
      have hs4 := hb4.size
      have hc4 := hcA.under hb4 (by omega)
      have ho4 := hoA.under hb4 (by omega)
      have hr4 := hrA.under hb4 (Nat.le_refl _)
      go_meet
      case rel => exact ⟨_, _, ho6, by omega, hf.snoc 7 (by omega) (by omega), hr4, hc4, ho4, by omega⟩
    have e0 : ((z : Int) == 0) = false := by simp; omega
    by_cases z1 : z = 1
    · subst z1
      by_cases hn0 : 0 < n
      · have hg : decide ((n : Int) > 0) = true := by simp; omega
        have hg2 : decide ((0 : Int) < n) = true := by simp; omega
        obtain ⟨g, e1⟩ : ∃ g, vb = some ⟨g, 0, none⟩ := by
          rcases hb3.2 with ⟨_, h⟩ | ⟨g, cap, cur, e, _⟩
          · omega
          · injection e with e _ _; exact ⟨g, e⟩
        subst e1
        have hgb := (World.ownsRow.lt hb3 g rfl).1
        go_wp2_with fail
        go_at_call 40
        refine (below_any B p n _ hc3 (by omega) (by omega)).mono ?_
        rintro e w4 ⟨⟨x, hx, rfl⟩, hc4, ho4⟩
        have hxn : x < n := by simp at hx; omega
        have hs4 := ho4.size
        have hb4 := Only.own hb3 ho4 (show p < wa.heap.size by omega)
        have hr4 := Row.on hr3 ho4 hp
        have ho6 := ho5.trans ho4
        have hxi : (x : Int) < (n : Int) := by omega
        obtain ⟨hbF, hBF⟩ := OwnI.put hb4 x 8
        have hfz := World.ownsRow.frozenAt hb4 x
        obtain ⟨u, hu⟩ : ∃ u, w4.cell? ⟨g, x, none⟩ = some u := by
          rw [World.ownsRow.cellAt hb4 x (by omega)]
          exact ⟨_, List.getElem?_eq_getElem (by rw [hb4.1]; omega)⟩
        have hcF := hc4.under hBF (by omega)
        have hoF := ho6.under hBF (by omega)
        have hrF := hr4.under hBF (Nat.le_refl _)
        have hsF := hBF.size
        clear hb3 hb4 hc3 hc4 ho4 ho5 ho6 hr3 hr4 hx hBF
        go_wp2_with fail
        go_meet
        case rel => exact ⟨n, _, hbF, by omega, hf.set x 8 (by omega) (by omega), hrF, hcF, hoF, by omega⟩
      · have hg : decide ((n : Int) > 0) = false := by simp; omega
        have hg2 : decide ((0 : Int) < n) = false := by simp; omega
        go_wp2_with fail
        go_meet
        case rel => exact ⟨n, zs, hb3, by omega, hf, hr3, hc3, ho5, by omega⟩
    have e1 : ((z : Int) == 1) = false := by simp; omega
    have hq : Int.tdiv (n : Int) 2 = ((n / 2 : Nat) : Int) := by rw [Int.tdiv_eq_ediv_of_nonneg (by omega)]; omega
    by_cases z2 : z = 2
    · subst z2
      have hbF := OwnI.cut hb3 (j := n / 2) (by omega)
      have hsl := fun V => cut_fore V vb n db (n / 2) (by omega)
      have hqn : n / 2 ≤ 10 := by omega
      obtain ⟨H, hH⟩ : ∃ H : Nat, n / 2 = H := ⟨_, rfl⟩
      rw [hH] at hq hsl hbF hqn
      have hw : IntKind.wrap .i64 (H : Int) = H := by rw [IntKind.wrap_i64]; omega
      clear hH hb3
      go_wp2_with fail
      go_meet
      case rel => exact ⟨H, _, hbF, hqn, hf.take _, hr3, hc3, ho5, by omega⟩
    have e2 : ((z : Int) == 2) = false := by simp; omega
    by_cases z3 : z = 3
    · subst z3
      obtain ⟨_, _, e4, _, _, hbo3⟩ := hb3.own hf.out
      injection e4 with e4 _ e5
      subst e4 e5
      have hrb := hbo3.row
      have hqn : n / 2 ≤ n := by omega
      obtain ⟨H, hH⟩ : ∃ H : Nat, n / 2 = H := ⟨_, rfl⟩
      rw [hH] at hq hqn
      have hw : IntKind.wrap .i64 (H : Int) = H := by rw [IntKind.wrap_i64]; omega
      have r1 := Row.fore hrb hqn
      have hsl1 := fun V => cut_fore V vb n db H (by omega)
      have hsl2 := fun V => cut_aft V vb n db H hqn
      have r2 := Nts.Row.mid (c := db) hrb (f := H) (h := n) hqn (Nat.le_refl _) hbc
      rw [show zs.take n = zs by rw [← hl]; exact List.take_length] at r2
      have hf9 : Fit ([9] ++ zs.drop H) := by
        have h := hf.split 0 9 (by omega) (by omega)
        unfold Fit at *
        intro z hz
        rcases List.mem_append.1 hz with hz | hz
        · exact h z (by simp at hz; subst hz; simp)
        · exact hf z (List.mem_of_mem_drop hz)
      have hf14 := hf.split H 9 (by omega) (by omega)
      obtain ⟨aD, haD⟩ : ∃ aD, (if db = H then vb else vb.map (·.add H)) = aD := ⟨_, rfl⟩
      obtain ⟨K, hK⟩ : ∃ K, n - H = K := ⟨_, rfl⟩
      obtain ⟨cD, hcD⟩ : ∃ cD, db - H = cD := ⟨_, rfl⟩
      rw [haD, hK, hcD] at hsl2
      rw [haD, hK] at r2
      have hHK : H + K = n := by omega
      have hBB : Below w3.heap.size w3 w3.drew := (Below.refl _ _).drew
      clear hH haD hK hcD hb3 hrb
      go_upto_region 16 with fail
      refine wp_region_held_drew (S := (fun _ => True)) (by kernel_rfl) trivial (fun hHeld => ?_)
      refine wpAnyH_take (i := 1) (v := ?va1) (List.getElem?_toArray.trans rfl) (by kernel_rfl) (by kernel_rfl) (by kernel_rfl) (fun _ _ _ h => h) (Or.inl ⟨by rfl, ?ya1⟩) (by assumption) ?ra1
      case ya1 => (intro w hSw; go_simp; try with_reducible rfl)
      try simp only [Act.put, List.setIfInBounds_toArray, List.set_cons_zero, List.set_cons_succ]
      refine wpAnyH_take (i := 2) (v := ?va2) (List.getElem?_toArray.trans rfl) (by kernel_rfl) (by kernel_rfl) (by kernel_rfl) (fun _ _ _ h => h) (Or.inl ⟨by rfl, ?ya2⟩) (by assumption) ?ra2
      case ya2 => (intro w hSw; go_simp; try with_reducible rfl)
      try simp only [Act.put, List.setIfInBounds_toArray, List.set_cons_zero, List.set_cons_succ]
      refine wpAnyH_take (i := 3) (v := ?va3) (List.getElem?_toArray.trans rfl) (by kernel_rfl) (by kernel_rfl) (by kernel_rfl) (fun _ _ _ h => h) (Or.inl ⟨by rfl, ?ya3⟩) (by assumption) ?ra3
      case ya3 => (intro w hSw; go_simp; try with_reducible rfl)
      try simp only [Act.put, List.setIfInBounds_toArray, List.set_cons_zero, List.set_cons_succ]
      refine wpAnyH_take (i := 4) (v := ?va4) (List.getElem?_toArray.trans rfl) (by kernel_rfl) (by kernel_rfl) (by kernel_rfl) (fun _ _ _ h => h) (Or.inl ⟨by rfl, ?ya4⟩) (by assumption) ?ra4
      case ya4 => (intro w hSw; go_simp; try with_reducible rfl)
      try simp only [Act.put, List.setIfInBounds_toArray, List.set_cons_zero, List.set_cons_succ]
      refine wpAnyH_take (i := 5) (v := ?va5) (List.getElem?_toArray.trans rfl) (by kernel_rfl) (by kernel_rfl) (by kernel_rfl) (fun _ _ _ h => h) (Or.inl ⟨by rfl, ?ya5⟩) (by assumption) ?ra5
      case ya5 => (intro w hSw; go_simp; try with_reducible rfl)
      try simp only [Act.put, List.setIfInBounds_toArray, List.set_cons_zero, List.set_cons_succ]
      refine wpAnyH_take (i := 8) (v := ?va8) (List.getElem?_toArray.trans rfl) (by kernel_rfl) (by kernel_rfl) (by kernel_rfl) (fun _ _ _ h => h) (Or.inl ⟨by rfl, ?ya8⟩) (by assumption) ?ra8
      case ya8 => (intro w hSw; go_simp; try with_reducible rfl)
      try simp only [Act.put, List.setIfInBounds_toArray, List.set_cons_zero, List.set_cons_succ]
      refine wpAnyH_take (i := 9) (v := ?va9) (List.getElem?_toArray.trans rfl) (by kernel_rfl) (by kernel_rfl) (by kernel_rfl) (fun _ _ _ h => h) (Or.inl ⟨by rfl, ?ya9⟩) (by assumption) ?ra9
      case ya9 => (intro w hSw; go_simp; try with_reducible rfl)
      try simp only [Act.put, List.setIfInBounds_toArray, List.set_cons_zero, List.set_cons_succ]
      refine wpAnyH_take (i := 10) (v := ?va10) (List.getElem?_toArray.trans rfl) (by kernel_rfl) (by kernel_rfl) (by kernel_rfl) (fun _ _ _ h => h) (Or.inl ⟨by rfl, ?ya10⟩) (by assumption) ?ra10
      case ya10 => (intro w hSw; go_simp; try with_reducible rfl)
      try simp only [Act.put, List.setIfInBounds_toArray, List.set_cons_zero, List.set_cons_succ]
      refine wpAnyH_take (i := 11) (v := ?va11) (List.getElem?_toArray.trans rfl) (by kernel_rfl) (by kernel_rfl) (by kernel_rfl) (fun _ _ _ h => h) (Or.inl ⟨by rfl, ?ya11⟩) (by assumption) ?ra11
      case ya11 => (intro w hSw; go_simp; try with_reducible rfl)
      try simp only [Act.put, List.setIfInBounds_toArray, List.set_cons_zero, List.set_cons_succ]
      refine wpAnyH_take (i := 12) (v := ?va12) (List.getElem?_toArray.trans rfl) (by kernel_rfl) (by kernel_rfl) (by kernel_rfl) (fun _ _ _ h => h) (Or.inl ⟨by rfl, ?ya12⟩) (by assumption) ?ra12
      case ya12 => (intro w hSw; go_simp; try with_reducible rfl)
      try simp only [Act.put, List.setIfInBounds_toArray, List.set_cons_zero, List.set_cons_succ]
      refine wpAnyH_ready (rs := [0, 7]) (by kernel_rfl) (by simp) ?_
      refine AllReadyH.cons (List.getElem?_toArray.trans rfl) (fun Kc hKc => ?_) (AllReadyH.cons (List.getElem?_toArray.trans rfl) (fun Kc hKc => ?_) AllReadyH.nil)
      · go_simp
        have hA0 : Below w3.heap.size w3.drew (w3.alloc (.cells #[] 3)).drew := (show Below w3.heap.size w3.drew (w3.drew.alloc (.cells #[] 3)) from (Below.refl w3.heap.size w3.drew).alloc (Nat.le_refl w3.heap.size) (.cells #[] 3))
        have z0 : w3.heap.size < (w3.alloc (.cells #[] 3)).heap.size := Nat.lt_of_lt_of_eq (Nat.lt_succ_self _) (size_alloc _ _).symm
        have zd0 : w3.heap.size < (w3.alloc (.cells #[] 3)).drew.heap.size := z0
        have o0 : OwnI .i64 3 w3.heap.size (w3.alloc (.cells #[] 3)).drew (.slice (some ⟨w3.heap.size, 0, none⟩) 0 0) 0 [] := by have h := OwnI.made .i64 3 (base := w3.heap.size) w3 (by omega); exact h
        have hBB := hBB.trans (hA0.mono (by omega))
        refine hKc.out _ _ trivial (fun hHeld => ?_)
        clear hKc Kc
        try simp only [Act.put, List.setIfInBounds_toArray, List.set_cons_zero, List.set_cons_succ]
        refine wpAnyH_ready (rs := [6, 7]) (by kernel_rfl) (by simp) ?_
        refine AllReadyH.cons (List.getElem?_toArray.trans rfl) (fun Kc hKc => ?_) (AllReadyH.cons (List.getElem?_toArray.trans rfl) (fun Kc hKc => ?_) AllReadyH.nil)
        · refine step_append_row_at rfl _ _ 24 rfl w3.heap.size 3 i0 _ 8 Try.underlying24 hi0 hz0 hz1 hz2 rfl _ 0 [] rfl o0 wa.heap.size w3.heap.size vb H db _ rfl (r1.under hBB (Nat.le_refl _)) ?h2_1 ?h2_2 ?h2_3 ?_
          case h2_1 => unfold maxLen; omega
          case h2_2 => omega
          case h2_3 => omega
          intro v6 w6 o6 hg6 ha6
          rw [Nat.zero_add, List.nil_append] at o6
          have z6 : (w3.alloc (.cells #[] 3)).heap.size ≤ w6.heap.size := hg6.size
          have hv6 : v6.ownBlock = some (w3.heap.size) ∨ v6.ownBlock = some ((w3.alloc (.cells #[] 3)).heap.size) := ha6
          have hl6 : ∀ b, v6.ownBlock = some b → b < w6.heap.size := fun b e => (World.ownsRow.lt o6 b e).2
          have hBB := hBB.trans ((Below.refl _ _).grown hg6 (show w3.heap.size ≤ (w3.alloc (.cells #[] 3)).heap.size by omega) (fun k e => by have h1 := Option.some.inj (show some (w3.heap.size) = some k from e); omega))
          refine hKc.out _ _ trivial (fun hHeld => ?_)
          clear hKc Kc
          try simp only [Act.put, List.setIfInBounds_toArray, List.set_cons_zero, List.set_cons_succ]
          refine wpAnyH_ready (rs := [7]) (by kernel_rfl) (by simp) ?_
          refine AllReadyH.cons (List.getElem?_toArray.trans rfl) (fun Kc hKc => ?_) AllReadyH.nil
          go_simp
          have hA7 : Below w6.heap.size w6 (w6.alloc (.cells #[.int .i64 9] 3)) := (show Below w6.heap.size w6 (w6.alloc (.cells #[.int .i64 9] 3)) from (Below.refl w6.heap.size w6).alloc (Nat.le_refl w6.heap.size) (.cells #[.int .i64 9] 3))
          have z7 : w6.heap.size < (w6.alloc (.cells #[.int .i64 9] 3)).heap.size := Nat.lt_of_lt_of_eq (Nat.lt_succ_self _) (size_alloc _ _).symm
          have o6 := OwnI.below o6 hA7
          have o7 : OwnI .i64 3 w3.heap.size (w6.alloc (.cells #[.int .i64 9] 3)) (.slice (some ⟨w6.heap.size, 0, none⟩) 1 1) 1 [9] := by have h := OwnI.lit .i64 3 (base := w3.heap.size) w6 [9] (by omega) (by simp [maxLen]); exact h
          have hBB := hBB.trans (hA7.mono (by omega))
          refine hKc.out _ _ trivial (fun hHeld => ?_)
          clear hKc Kc
          try simp only [Act.put, List.setIfInBounds_toArray, List.set_cons_zero, List.set_cons_succ]
          refine wpAnyH_ready (rs := [13]) (by kernel_rfl) (by simp) ?_
          refine AllReadyH.cons (List.getElem?_toArray.trans rfl) (fun Kc hKc => ?_) AllReadyH.nil
          refine step_append_row_at rfl _ _ 24 rfl w3.heap.size 3 i0 _ 8 Try.underlying24 hi0 hz0 hz1 hz2 rfl _ 1 [9] rfl o7 wa.heap.size w3.heap.size aD K cD _ rfl (r2.under hBB (Nat.le_refl _)) ?h4_4 ?h4_5 ?h4_6 ?_
          case h4_4 => unfold maxLen; omega
          case h4_5 => omega
          case h4_6 => omega
          intro v13 w13 o13 hg13 _
          have z13 : (w6.alloc (.cells #[.int .i64 9] 3)).heap.size ≤ w13.heap.size := hg13.size
          have o6 := OwnI.apart o6 hg13 (fun b e e2 => by have h2 := Option.some.inj (show some (w6.heap.size) = some b from e2); have h3 := hl6 b e; rcases hv6 with h | h <;> (rw [h] at e; injection e with e; omega))
          have hBB := hBB.trans ((Below.refl _ _).grown hg13 (show w3.heap.size ≤ (w6.alloc (.cells #[.int .i64 9] 3)).heap.size by omega) (fun k e => by have h1 := Option.some.inj (show some (w6.heap.size) = some k from e); omega))
          obtain ⟨a13, c13, rfl, _, _, p13⟩ := o13.own hf9.out
          refine hKc.out _ _ trivial (fun hHeld => ?_)
          clear hKc Kc
          try simp only [Act.put, List.setIfInBounds_toArray, List.set_cons_zero, List.set_cons_succ]
          refine wpAnyH_ready (rs := [14]) (by kernel_rfl) (by simp) ?_
          refine AllReadyH.cons (List.getElem?_toArray.trans rfl) (fun Kc hKc => ?_) AllReadyH.nil
          refine step_append_row_at rfl _ _ 24 rfl w3.heap.size 3 i0 _ 8 Try.underlying24 hi0 hz0 hz1 hz2 rfl _ H _ rfl o6 w3.heap.size w13.heap.size a13 (1 + K) c13 _ rfl p13.row ?h5_7 ?h5_8 ?h5_9 ?_
          case h5_7 => unfold maxLen; omega
          case h5_8 => omega
          case h5_9 => omega
          intro v14 w14 o14 hg14 _
          have z14 : w13.heap.size ≤ w14.heap.size := hg14.size
          have hBB := hBB.trans ((Below.refl _ _).grown hg14 (show w3.heap.size ≤ w13.heap.size by omega) (fun k e => (World.ownsRow.lt o6 k e).1))
          refine hKc.out _ _ trivial (fun hHeld => ?_)
          clear hKc Kc
          try simp only [Act.put, List.setIfInBounds_toArray, List.set_cons_zero, List.set_cons_succ]
          refine wpAnyH_take (i := 15) (v := ?vz5_15) (List.getElem?_toArray.trans rfl) (by kernel_rfl) (by kernel_rfl) (by kernel_rfl) (fun _ _ _ h => h) (Or.inl ⟨by rfl, ?yz5_15⟩) (by assumption) ?rz5_15
          case yz5_15 => (intro w hSw; go_simp; try with_reducible rfl)
          try simp only [Act.put, List.setIfInBounds_toArray, List.set_cons_zero, List.set_cons_succ]
          refine wpAnyH_done (by kernel_rfl) ?_ _
          have hcF := hc3.under hBB (by omega)
          have hoF := ho5.under hBB (by omega)
          have hrF := hr3.under hBB (by omega)
          clear r1 r2 o6 o13 p13
          go_wp2_with fail
          go_meet
          case rel => exact ⟨_, _, ownI_base o14 (by omega), by omega, hf14, hrF, hcF, hoF, by omega⟩
        · go_simp
          have hA7 : Below (w3.alloc (.cells #[] 3)).heap.size (w3.alloc (.cells #[] 3)).drew ((w3.alloc (.cells #[] 3)).alloc (.cells #[.int .i64 9] 3)).drew := (show Below (w3.alloc (.cells #[] 3)).heap.size (w3.alloc (.cells #[] 3)).drew ((w3.alloc (.cells #[] 3)).drew.alloc (.cells #[.int .i64 9] 3)) from (Below.refl (w3.alloc (.cells #[] 3)).heap.size (w3.alloc (.cells #[] 3)).drew).alloc (Nat.le_refl (w3.alloc (.cells #[] 3)).heap.size) (.cells #[.int .i64 9] 3))
          have z7 : (w3.alloc (.cells #[] 3)).heap.size < ((w3.alloc (.cells #[] 3)).alloc (.cells #[.int .i64 9] 3)).heap.size := Nat.lt_of_lt_of_eq (Nat.lt_succ_self _) (size_alloc _ _).symm
          have zd7 : (w3.alloc (.cells #[] 3)).heap.size < ((w3.alloc (.cells #[] 3)).alloc (.cells #[.int .i64 9] 3)).drew.heap.size := z7
          have o0 := OwnI.below o0 hA7
          have o7 : OwnI .i64 3 w3.heap.size ((w3.alloc (.cells #[] 3)).alloc (.cells #[.int .i64 9] 3)).drew (.slice (some ⟨w3.heap.size + 1, 0, none⟩) 1 1) 1 [9] := by have h := OwnI.lit .i64 3 (base := w3.heap.size) (w3.alloc (.cells #[] 3)) [9] (by omega) (by simp [maxLen]); rw [size_alloc w3] at h; exact h
          have hBB := hBB.trans (hA7.mono (by omega))
          have zs7 : w3.heap.size + 1 < ((w3.alloc (.cells #[] 3)).alloc (.cells #[.int .i64 9] 3)).heap.size := by rw [size_alloc, size_alloc]; omega
          refine hKc.out _ _ trivial (fun hHeld => ?_)
          clear hKc Kc
          try simp only [Act.put, List.setIfInBounds_toArray, List.set_cons_zero, List.set_cons_succ]
          refine wpAnyH_ready (rs := [6]) (by kernel_rfl) (by simp) ?_
          refine AllReadyH.cons (List.getElem?_toArray.trans rfl) (fun Kc hKc => ?_) AllReadyH.nil
          refine step_append_row_at rfl _ _ 24 rfl w3.heap.size 3 i0 _ 8 Try.underlying24 hi0 hz0 hz1 hz2 rfl _ 0 [] rfl o0 wa.heap.size w3.heap.size vb H db _ rfl (r1.under hBB (Nat.le_refl _)) ?h7_1 ?h7_2 ?h7_3 ?_
          case h7_1 => unfold maxLen; omega
          case h7_2 => omega
          case h7_3 => omega
          intro v6 w6 o6 hg6 ha6
          rw [Nat.zero_add, List.nil_append] at o6
          have z6 : ((w3.alloc (.cells #[] 3)).alloc (.cells #[.int .i64 9] 3)).heap.size ≤ w6.heap.size := hg6.size
          have hv6 : v6.ownBlock = some (w3.heap.size) ∨ v6.ownBlock = some (((w3.alloc (.cells #[] 3)).alloc (.cells #[.int .i64 9] 3)).heap.size) := ha6
          have hl6 : ∀ b, v6.ownBlock = some b → b < w6.heap.size := fun b e => (World.ownsRow.lt o6 b e).2
          have o7 := OwnI.apart o7 hg6 (fun b e e2 => by have h1 := Option.some.inj (show some (w3.heap.size + 1) = some b from e); have h2 := Option.some.inj (show some (w3.heap.size) = some b from e2); omega)
          have hBB := hBB.trans ((Below.refl _ _).grown hg6 (show w3.heap.size ≤ ((w3.alloc (.cells #[] 3)).alloc (.cells #[.int .i64 9] 3)).heap.size by omega) (fun k e => by have h1 := Option.some.inj (show some (w3.heap.size) = some k from e); omega))
          refine hKc.out _ _ trivial (fun hHeld => ?_)
          clear hKc Kc
          try simp only [Act.put, List.setIfInBounds_toArray, List.set_cons_zero, List.set_cons_succ]
          refine wpAnyH_ready (rs := [13]) (by kernel_rfl) (by simp) ?_
          refine AllReadyH.cons (List.getElem?_toArray.trans rfl) (fun Kc hKc => ?_) AllReadyH.nil
          refine step_append_row_at rfl _ _ 24 rfl w3.heap.size 3 i0 _ 8 Try.underlying24 hi0 hz0 hz1 hz2 rfl _ 1 [9] rfl o7 wa.heap.size w3.heap.size aD K cD _ rfl (r2.under hBB (Nat.le_refl _)) ?h8_4 ?h8_5 ?h8_6 ?_
          case h8_4 => unfold maxLen; omega
          case h8_5 => omega
          case h8_6 => omega
          intro v13 w13 o13 hg13 _
          have z13 : w6.heap.size ≤ w13.heap.size := hg13.size
          have o6 := OwnI.apart o6 hg13 (fun b e e2 => by have h2 := Option.some.inj (show some (w3.heap.size + 1) = some b from e2); have h3 := hl6 b e; rcases hv6 with h | h <;> (rw [h] at e; injection e with e; omega))
          have hBB := hBB.trans ((Below.refl _ _).grown hg13 (show w3.heap.size ≤ w6.heap.size by omega) (fun k e => by have h1 := Option.some.inj (show some (w3.heap.size + 1) = some k from e); omega))
          obtain ⟨a13, c13, rfl, _, _, p13⟩ := o13.own hf9.out
          refine hKc.out _ _ trivial (fun hHeld => ?_)
          clear hKc Kc
          try simp only [Act.put, List.setIfInBounds_toArray, List.set_cons_zero, List.set_cons_succ]
          refine wpAnyH_ready (rs := [14]) (by kernel_rfl) (by simp) ?_
          refine AllReadyH.cons (List.getElem?_toArray.trans rfl) (fun Kc hKc => ?_) AllReadyH.nil
          refine step_append_row_at rfl _ _ 24 rfl w3.heap.size 3 i0 _ 8 Try.underlying24 hi0 hz0 hz1 hz2 rfl _ H _ rfl o6 w3.heap.size w13.heap.size a13 (1 + K) c13 _ rfl p13.row ?h9_7 ?h9_8 ?h9_9 ?_
          case h9_7 => unfold maxLen; omega
          case h9_8 => omega
          case h9_9 => omega
          intro v14 w14 o14 hg14 _
          have z14 : w13.heap.size ≤ w14.heap.size := hg14.size
          have hBB := hBB.trans ((Below.refl _ _).grown hg14 (show w3.heap.size ≤ w13.heap.size by omega) (fun k e => (World.ownsRow.lt o6 k e).1))
          refine hKc.out _ _ trivial (fun hHeld => ?_)
          clear hKc Kc
          try simp only [Act.put, List.setIfInBounds_toArray, List.set_cons_zero, List.set_cons_succ]
          refine wpAnyH_take (i := 15) (v := ?vz9_15) (List.getElem?_toArray.trans rfl) (by kernel_rfl) (by kernel_rfl) (by kernel_rfl) (fun _ _ _ h => h) (Or.inl ⟨by rfl, ?yz9_15⟩) (by assumption) ?rz9_15
          case yz9_15 => (intro w hSw; go_simp; try with_reducible rfl)
          try simp only [Act.put, List.setIfInBounds_toArray, List.set_cons_zero, List.set_cons_succ]
          refine wpAnyH_done (by kernel_rfl) ?_ _
          have hcF := hc3.under hBB (by omega)
          have hoF := ho5.under hBB (by omega)
          have hrF := hr3.under hBB (by omega)
          clear r1 r2 o6 o13 p13
          go_wp2_with fail
          go_meet
          case rel => exact ⟨_, _, ownI_base o14 (by omega), by omega, hf14, hrF, hcF, hoF, by omega⟩
      · go_simp
        have hA7 : Below w3.heap.size w3.drew (w3.alloc (.cells #[.int .i64 9] 3)).drew := (show Below w3.heap.size w3.drew (w3.drew.alloc (.cells #[.int .i64 9] 3)) from (Below.refl w3.heap.size w3.drew).alloc (Nat.le_refl w3.heap.size) (.cells #[.int .i64 9] 3))
        have z7 : w3.heap.size < (w3.alloc (.cells #[.int .i64 9] 3)).heap.size := Nat.lt_of_lt_of_eq (Nat.lt_succ_self _) (size_alloc _ _).symm
        have zd7 : w3.heap.size < (w3.alloc (.cells #[.int .i64 9] 3)).drew.heap.size := z7
        have o7 : OwnI .i64 3 w3.heap.size (w3.alloc (.cells #[.int .i64 9] 3)).drew (.slice (some ⟨w3.heap.size, 0, none⟩) 1 1) 1 [9] := by have h := OwnI.lit .i64 3 (base := w3.heap.size) w3 [9] (by omega) (by simp [maxLen]); exact h
        have hBB := hBB.trans (hA7.mono (by omega))
        refine hKc.out _ _ trivial (fun hHeld => ?_)
        clear hKc Kc
        try simp only [Act.put, List.setIfInBounds_toArray, List.set_cons_zero, List.set_cons_succ]
        refine wpAnyH_ready (rs := [0]) (by kernel_rfl) (by simp) ?_
        refine AllReadyH.cons (List.getElem?_toArray.trans rfl) (fun Kc hKc => ?_) AllReadyH.nil
        go_simp
        have hA0 : Below (w3.alloc (.cells #[.int .i64 9] 3)).heap.size (w3.alloc (.cells #[.int .i64 9] 3)).drew ((w3.alloc (.cells #[.int .i64 9] 3)).alloc (.cells #[] 3)).drew := (show Below (w3.alloc (.cells #[.int .i64 9] 3)).heap.size (w3.alloc (.cells #[.int .i64 9] 3)).drew ((w3.alloc (.cells #[.int .i64 9] 3)).drew.alloc (.cells #[] 3)) from (Below.refl (w3.alloc (.cells #[.int .i64 9] 3)).heap.size (w3.alloc (.cells #[.int .i64 9] 3)).drew).alloc (Nat.le_refl (w3.alloc (.cells #[.int .i64 9] 3)).heap.size) (.cells #[] 3))
        have z0 : (w3.alloc (.cells #[.int .i64 9] 3)).heap.size < ((w3.alloc (.cells #[.int .i64 9] 3)).alloc (.cells #[] 3)).heap.size := Nat.lt_of_lt_of_eq (Nat.lt_succ_self _) (size_alloc _ _).symm
        have zd0 : (w3.alloc (.cells #[.int .i64 9] 3)).heap.size < ((w3.alloc (.cells #[.int .i64 9] 3)).alloc (.cells #[] 3)).drew.heap.size := z0
        have o7 := OwnI.below o7 hA0
        have o0 : OwnI .i64 3 w3.heap.size ((w3.alloc (.cells #[.int .i64 9] 3)).alloc (.cells #[] 3)).drew (.slice (some ⟨w3.heap.size + 1, 0, none⟩) 0 0) 0 [] := by have h := OwnI.made .i64 3 (base := w3.heap.size) (w3.alloc (.cells #[.int .i64 9] 3)) (by omega); rw [size_alloc w3] at h; exact h
        have hBB := hBB.trans (hA0.mono (by omega))
        have zs0 : w3.heap.size + 1 < ((w3.alloc (.cells #[.int .i64 9] 3)).alloc (.cells #[] 3)).heap.size := by rw [size_alloc, size_alloc]; omega
        refine hKc.out _ _ trivial (fun hHeld => ?_)
        clear hKc Kc
        try simp only [Act.put, List.setIfInBounds_toArray, List.set_cons_zero, List.set_cons_succ]
        refine wpAnyH_ready (rs := [6]) (by kernel_rfl) (by simp) ?_
        refine AllReadyH.cons (List.getElem?_toArray.trans rfl) (fun Kc hKc => ?_) AllReadyH.nil
        refine step_append_row_at rfl _ _ 24 rfl w3.heap.size 3 i0 _ 8 Try.underlying24 hi0 hz0 hz1 hz2 rfl _ 0 [] rfl o0 wa.heap.size w3.heap.size vb H db _ rfl (r1.under hBB (Nat.le_refl _)) ?h12_1 ?h12_2 ?h12_3 ?_
        case h12_1 => unfold maxLen; omega
        case h12_2 => omega
        case h12_3 => omega
        intro v6 w6 o6 hg6 ha6
        rw [Nat.zero_add, List.nil_append] at o6
        have z6 : ((w3.alloc (.cells #[.int .i64 9] 3)).alloc (.cells #[] 3)).heap.size ≤ w6.heap.size := hg6.size
        have hv6 : v6.ownBlock = some (w3.heap.size + 1) ∨ v6.ownBlock = some (((w3.alloc (.cells #[.int .i64 9] 3)).alloc (.cells #[] 3)).heap.size) := ha6
        have hl6 : ∀ b, v6.ownBlock = some b → b < w6.heap.size := fun b e => (World.ownsRow.lt o6 b e).2
        have o7 := OwnI.apart o7 hg6 (fun b e e2 => by have h1 := Option.some.inj (show some (w3.heap.size) = some b from e); have h2 := Option.some.inj (show some (w3.heap.size + 1) = some b from e2); omega)
        have hBB := hBB.trans ((Below.refl _ _).grown hg6 (show w3.heap.size ≤ ((w3.alloc (.cells #[.int .i64 9] 3)).alloc (.cells #[] 3)).heap.size by omega) (fun k e => by have h1 := Option.some.inj (show some (w3.heap.size + 1) = some k from e); omega))
        refine hKc.out _ _ trivial (fun hHeld => ?_)
        clear hKc Kc
        try simp only [Act.put, List.setIfInBounds_toArray, List.set_cons_zero, List.set_cons_succ]
        refine wpAnyH_ready (rs := [13]) (by kernel_rfl) (by simp) ?_
        refine AllReadyH.cons (List.getElem?_toArray.trans rfl) (fun Kc hKc => ?_) AllReadyH.nil
        refine step_append_row_at rfl _ _ 24 rfl w3.heap.size 3 i0 _ 8 Try.underlying24 hi0 hz0 hz1 hz2 rfl _ 1 [9] rfl o7 wa.heap.size w3.heap.size aD K cD _ rfl (r2.under hBB (Nat.le_refl _)) ?h13_4 ?h13_5 ?h13_6 ?_
        case h13_4 => unfold maxLen; omega
        case h13_5 => omega
        case h13_6 => omega
        intro v13 w13 o13 hg13 _
        have z13 : w6.heap.size ≤ w13.heap.size := hg13.size
        have o6 := OwnI.apart o6 hg13 (fun b e e2 => by have h2 := Option.some.inj (show some (w3.heap.size) = some b from e2); have h3 := hl6 b e; rcases hv6 with h | h <;> (rw [h] at e; injection e with e; omega))
        have hBB := hBB.trans ((Below.refl _ _).grown hg13 (show w3.heap.size ≤ w6.heap.size by omega) (fun k e => by have h1 := Option.some.inj (show some (w3.heap.size) = some k from e); omega))
        obtain ⟨a13, c13, rfl, _, _, p13⟩ := o13.own hf9.out
        refine hKc.out _ _ trivial (fun hHeld => ?_)
        clear hKc Kc
        try simp only [Act.put, List.setIfInBounds_toArray, List.set_cons_zero, List.set_cons_succ]
        refine wpAnyH_ready (rs := [14]) (by kernel_rfl) (by simp) ?_
        refine AllReadyH.cons (List.getElem?_toArray.trans rfl) (fun Kc hKc => ?_) AllReadyH.nil
        refine step_append_row_at rfl _ _ 24 rfl w3.heap.size 3 i0 _ 8 Try.underlying24 hi0 hz0 hz1 hz2 rfl _ H _ rfl o6 w3.heap.size w13.heap.size a13 (1 + K) c13 _ rfl p13.row ?h14_7 ?h14_8 ?h14_9 ?_
        case h14_7 => unfold maxLen; omega
        case h14_8 => omega
        case h14_9 => omega
        intro v14 w14 o14 hg14 _
        have z14 : w13.heap.size ≤ w14.heap.size := hg14.size
        have hBB := hBB.trans ((Below.refl _ _).grown hg14 (show w3.heap.size ≤ w13.heap.size by omega) (fun k e => (World.ownsRow.lt o6 k e).1))
        refine hKc.out _ _ trivial (fun hHeld => ?_)
        clear hKc Kc
        try simp only [Act.put, List.setIfInBounds_toArray, List.set_cons_zero, List.set_cons_succ]
        refine wpAnyH_take (i := 15) (v := ?vz14_15) (List.getElem?_toArray.trans rfl) (by kernel_rfl) (by kernel_rfl) (by kernel_rfl) (fun _ _ _ h => h) (Or.inl ⟨by rfl, ?yz14_15⟩) (by assumption) ?rz14_15
        case yz14_15 => (intro w hSw; go_simp; try with_reducible rfl)
        try simp only [Act.put, List.setIfInBounds_toArray, List.set_cons_zero, List.set_cons_succ]
        refine wpAnyH_done (by kernel_rfl) ?_ _
        have hcF := hc3.under hBB (by omega)
        have hoF := ho5.under hBB (by omega)
        have hrF := hr3.under hBB (by omega)
        clear r1 r2 o6 o13 p13
        go_wp2_with fail
        go_meet
        case rel => exact ⟨_, _, ownI_base o14 (by omega), by omega, hf14, hrF, hcF, hoF, by omega⟩
    have e3 : ((z : Int) == 3) = false := by simp; omega
    go_wp2_with fail
    go_meet
    case rel => exact ⟨n, zs, hb3, by omega, hf, hr3, hc3, ho5, by omega⟩
  case rest =>
  obtain ⟨k, bs, hb, hk, hfb, hr, hc, ho, hwx⟩ := hcut
  have hso := ho.size
  have hkl := hb.len
  obtain ⟨vB, dB, rfl, hBc, hBm, hBo⟩ := hb.own hfb.out
  clear hBo hb3 hc3 ho5 hr3 hl hs2 hs3 hz
  go_wp2_with fail
  go_at_call 34
  refine (once_any B p 12 _ hc (by omega) (by omega)).mono ?_
  rintro e w6 ⟨⟨bb, rfl⟩, hc6, ho6⟩
  have hs6 := ho6.size
  have hb6 := Only.own hb ho6 (show p < wa.heap.size by omega)
  have hr6 := Row.on hr ho6 hp
  have ho7 := ho.trans ho6
  clear hb hc ho hr ho6
  cases bb
  · obtain ⟨_, _, e1, _, _, hBo⟩ := hb6.own hfb.out
    injection e1 with e1 _ e2
    subst e1 e2
    have hra := hr6.more (Nat.le_refl _) (show wa.heap.size ≤ w6.heap.size by omega)
    have hrb := hBo.row.more (show w.heap.size ≤ wa.heap.size by omega) (Nat.le_refl _)
    clear hb6 hBo hr6
    go_wp2
    go_ret2
    exact ⟨_, _, _, _, _, _, _, _, rfl, hra, hrb, hn, by omega, hvc, hBc, hc6, ho7⟩
  · go_wp2_with fail
    go_loopw [6] (fun v wr => ∃ (bs : List Int), OwnI .i64 3 wa.heap.size wr v bs.length bs ∧ bs.length ≤ 101 ∧ Fit bs ∧ Row .i64 w.heap.size wa.heap.size wr va n zs ∧ Cur 61 B p wr ∧ Only p w wr ∧ w6.heap.size ≤ wr.heap.size) (fun v _ => 101 - lenV v)
    case atStart => exact ⟨bs, by rw [hkl]; exact hb6, by omega, hfb, hr6, hc6, ho7, Nat.le_refl _⟩
    case round =>
      obtain ⟨qs, hv, hq, hfq, hrq, hcq, hoq, hsq⟩ := hrel
      clear hb6 hr6 hc6 ho7 hfb
      obtain ⟨vq, dq, rfl, hqc, hqm, hqo⟩ := hv.own hfq.out
      by_cases hlt : qs.length < 101
      · have hg : decide ((qs.length : Int) < 101) = true := by simp; omega
        have hbA := hv.alloc (.cells #[.int .i64 1] 3)
        obtain ⟨V, hV⟩ : ∃ V, V = wr.alloc (.cells #[.int .i64 1] 3) := ⟨_, rfl⟩
        have hA : Below wr.heap.size wr V := by rw [hV]; exact (Below.refl _ _).alloc (Nat.le_refl _) _
        have hcA := hcq.below hA
        have hoA := hoq.trans (Only.of_below hA)
        have hrA := hrq.below hA
        have hsA := hA.size
        have hcell : V.cell? ⟨wr.heap.size, 0, none⟩ = some (.int .i64 1) := by rw [hV, World.cell?_alloc_mark wr _ _ (0, 0) 0]; rfl
        rw [← hV] at hbA
        subst hV
        clear hA hcq hoq hrq hv hqo
        go_wp2_with (at_builtin; refine wpList_append_one rfl _ _ 24 rfl wa.heap.size 3 i0 _ 8 Try.underlying24 hi0 hz0 hz1 hz2 rfl _ qs.length qs rfl hbA wr.heap.size 1 1 rfl hcell ?x1 ?x2 ?x3 ?_; (case x1 => unfold maxLen; omega); (case x2 => omega); (case x3 => omega); intro v4 w4 ho8 hb8)
        have hl8 := ho8.len
        rw [← hl8] at ho8
        have hs8 := hb8.size
        have hc8 := hcA.under hb8 (by omega)
        have ho9 := hoA.under hb8 (by omega)
        have hr8 := hrA.under hb8 (Nat.le_refl _)
        have hf8 := hfq.snoc 1 (by omega) (by omega)
        obtain ⟨_, _, rfl, _, _, _⟩ := ho8.own hf8.out
        go_roundw
        case rel => exact ⟨_, ho8, by omega, hf8, hr8, hc8, ho9, by omega⟩
        case measure => simp [lenV]; omega
      · have hg : decide ((qs.length : Int) < 101) = false := by simp; omega
        have hra := hrq.more (Nat.le_refl _) (show wa.heap.size ≤ wr.heap.size by omega)
        have hrb := hqo.row.more (show w.heap.size ≤ wa.heap.size by omega) (Nat.le_refl _)
        clear hv hqo hrq
        go_wp2
        go_ret2
        exact ⟨_, _, _, _, _, _, _, _, rfl, hra, hrb, hn, by omega, hvc, hqc, hcq, hoq⟩
end Go.Proofs.Ytkjglmfnlpapbaa.Draw
