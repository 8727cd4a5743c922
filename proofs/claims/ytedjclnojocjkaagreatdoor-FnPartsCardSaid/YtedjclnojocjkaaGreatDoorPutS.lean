/-
  A part put: the model.
  Conditions: the parts lie in memory, in all at most 2^20 numbers.
-/
import Derived.Test.YtedjclnojocjkaaGreatDoorPutJoin
import Derived.Deep.CutBlock
import Derived.Deep.DeepCutAuto
namespace Go.Proofs.YtedjclnojocjkaaGreatDoor.Parts
open Go Go.RowKit Go.Proofs.YtedjclnojocjkaaGreatDoor.Mem Go.Proofs.YtedjclnojocjkaaGreatDoor.Adr Go.Proofs.YtedjclnojocjkaaGreatDoor.Res

theorem pt_drop (l : List Prt) (k i : Nat) : pt (l.drop k) i = pt l (k + i) := by simp [pt, List.getD_eq_getElem?_getD]
theorem PRow.drop {lo hi n k : Nat} {w : World} {b off : Nat} {l : List Prt} (h : PRow lo hi w (some ⟨b, off, none⟩) n l) (hk : k ≤ n) : PRow lo hi w (some ⟨b, off + k * 7, none⟩) (n - k) (l.drop k) :=
  ⟨by simp [h.len], fun P hP => h.wf P (List.mem_of_mem_drop hP), fun hn => by
    obtain ⟨b', off', e, h1, h2, h3⟩ := h.here (by omega)
    injection e with e
    injection e with e1 e2 _
    subst e1 e2
    refine ⟨b, _, rfl, h1, h2, fun i hi => ?_⟩
    obtain ⟨A, c, g1, g2⟩ := h3 (k + i) (by omega)
    rw [pt_drop]
    refine ⟨A, c, ?_, g2⟩
    rw [show off + k * 7 + i * 7 = off + (k + i) * 7 by omega]
    exact g1⟩
theorem PRow.drop_any {lo hi n k : Nat} {w : World} {a : Option Addr} {l : List Prt} (h : PRow lo hi w a n l) (hk : n = k) (a' : Option Addr) : PRow lo hi w a' (n - k) (l.drop k) := by
  have hl := h.len
  refine ⟨by simp; omega, fun P hP => h.wf P (List.mem_of_mem_drop hP), fun hn => by omega⟩
theorem room_drop (l : List Prt) : ∀ k, room (l.drop k) ≤ room l := by
  induction l with
  | nil => simp
  | cons P l ih =>
    intro k
    cases k with
    | zero => exact Nat.le_refl _
    | succ k => have := ih k; simp only [List.drop_succ_cons, room]; omega
set_option maxRecDepth 100000 in
theorem cut_head (w : World) (a : Option Addr) (n c j : Nat) (h : j ≤ c) : (Instr.slice 24 (.slice a n c) none (some (.int .i64 (j : Int))) none).run Tryz.prog w = .ok (.slice a j c) w := by
  obtain ⟨i0, hi0, hz0, hz1, hz2⟩ := info_parts info7'
  have h1 : (0 : Int) ≤ (j : Int) ∧ (j : Int) ≤ (c : Int) := by omega
  simp [Instr.slice, run_underlying Tryz.underlying24, Instr.sliceBounds, Instr.sliceBound, asIntOf, h1, sizeOf, typeInfo, hi0, go_sem]
  exact fun h' => absurd h' (by omega)
set_option maxRecDepth 100000 in
theorem cut_tail (w : World) (a : Option Addr) (n c j : Nat) (h : j ≤ n) : (Instr.slice 24 (.slice a n c) (some (.int .i64 (j : Int))) none none).run Tryz.prog w = .ok (.slice (if c = j then a else a.map (·.add (j * 7))) (n - j) (c - j)) w := by
  obtain ⟨i0, hi0, hz0, hz1, hz2⟩ := info_parts info7'
  have h1 : (0 : Int) ≤ (j : Int) ∧ (j : Int) ≤ (n : Int) := by omega
  simp [Instr.slice, run_underlying Tryz.underlying24, Instr.sliceBounds, Instr.sliceBound, asIntOf, h1, sizeOf, typeInfo, hi0, go_sem, hz1]
  exact fun h' => absurd h' (by omega)
@[irreducible] def Lower (d : Int) (l : List Prt) (j : Nat) : Prop := ∀ i, i < j → (pt l i).d < d
theorem Lower.zero (d : Int) (l : List Prt) : Lower d l 0 := by unfold Lower; exact fun i h => absurd h (by omega)
theorem Lower.next {d : Int} {l : List Prt} {j : Nat} (h : Lower d l j) (hj : (pt l j).d < d) : Lower d l (j + 1) := by
  unfold Lower at *
  intro i hi
  by_cases he : i = j
  · subst he; exact hj
  · exact h i (by omega)
theorem Lower.split {X : Prt} {l : List Prt} {j : Nat} (h : Lower X.d l j) (hj : j ≤ l.length) (hn : ¬ fnd X.d l < l.length) (h2 : j < l.length → ¬ (pt l j).d < X.d) : pd X l = (l.take j ++ [X]) ++ l.drop j := by
  unfold Lower at h
  rw [pd_split hj h (fun hl => by
    have h3 := h2 hl
    have h4 := fnd_ne X.d l j (by have := fnd_le X.d l; omega)
    omega)]
  simp

set_option maxHeartbeats 8000000 in
set_option maxRecDepth 100000 in
theorem put_spec (lo hi lo2 hi2 : Nat) (w : World) (a : Option Addr) (n c : Nat) (l : List Prt) (X : Prt) (A : Option Addr) (cr : Nat) (hr : PRow lo hi w a n l) (hh : hi ≤ w.heap.size) (hm : room l ≤ 1048576) (row : Row .i64 lo2 hi2 w A X.zs.length X.zs) (hh2 : hi2 ≤ w.heap.size) (hm2 : room l + (1 + X.zs.length) ≤ 1048577) (hw : X.Wf) (hX : X.d = digP X) (hX1 : X.u = 1) (hcap : n ≤ c) :
    Calls Tryz.prog 22 #[.slice a n c, (Value.agg #[Value.int IntKind.i64 (X.k), Value.slice (A) (X.zs.length) (cr), Value.int IntKind.i64 (X.h), Value.int IntKind.i64 (X.p), Value.int IntKind.i64 (X.q)])] w (PAns w.heap.size (putL X l) (putB X l) w) := by
  obtain ⟨wd, wk, wh, wp, wq, _⟩ := id hw
  have hq := room_eq l
  have hlen := hr.len
  have hn : n ≤ 1048576 := by omega
  have hzX : X.zs.length ≤ 1048576 := by omega
  have hA : Below w.heap.size w (w.alloc (.cells #[.int .i64 X.k, .slice A X.zs.length cr, .int .i64 X.h, .int .i64 X.p, .int .i64 X.q] 29)) := (Below.refl _ _).alloc (Nat.le_refl _) _
  have hsA := hA.size
  have Qr := Quint.new 29 (.int .i64 X.k) (.slice A X.zs.length cr) (.int .i64 X.h) (.int .i64 X.p) (.int .i64 X.q) w
  have hrA := hr.under hA hh
  have rowA := row.under hA hh2
  have hS := fun W r h => store_spec lo hi W a n c l r h (Nat.le_succ_of_le hm)
  have hC := fun W r h => copy_spec lo hi W a n c l r h hm
  have HL := Lib.hid hlen
  cases hst : storeB l with
  | false =>
    rw [show putL X l = l by unfold putL putB; rw [hst]; rfl, show putB X l = false by unfold putB; rw [hst]; rfl]
    rw [hst] at hS
    clear hq hlen hX hX1 Qr row rowA hr
    go_enter Tryz.func22, Tryz.ntmps22
    go_wp2_with fail
    go_at_call 60
    refine (hS _ hrA (Nat.le_trans hh hsA)).mono ?_
    rintro e w2 ⟨rfl, hb2⟩
    have r2 := hrA.below hb2
    have hs2 := Nat.le_trans hsA hb2.size
    have hB2 := hA.trans (hb2.mono hsA)
    go_wp2_with fail
    go_at_call 57
    refine (hC _ r2 (Nat.le_trans hh hs2)).mono ?_
    rintro e w3 ⟨v, G, rfl, hv, hb3⟩
    go_wp2
    go_ret2
    exact ⟨v, G, rfl, by rw [HL.out]; exact hv.down hs2, hB2.trans (hb3.mono hs2)⟩
  | true =>
  obtain ⟨h30, hok, hrise⟩ := (storeB_iff l).1 hst
  rw [hst] at hS
  have hD := fun W r => digest_spec lo2 hi2 X.k X.h X.p X.q W A X.zs.length cr X.zs r (by omega) wk wh wp wq
  rw [show dig X.k X.h X.p X.q X.zs.length X.zs = X.d from hX.symm] at hD
  have hF := fun W r => find_spec lo hi W a n c l r X.d (by omega)
  have HX1 := Lib.hid hX1
  have H0 := Lib.hid hr
  have HPL := Lib.hid (show putL X l = if storeB (pd X l) = true then pd X l else l by unfold putL putB; rw [hst]; rfl)
  have HPB := Lib.hid (show putB X l = storeB (pd X l) by unfold putB; rw [hst]; rfl)
  have hrm := pd_room X l
  have hpl := pd_len X l
  obtain ⟨k0, hk0⟩ : ∃ k0, found X.d l = k0 := ⟨_, rfl⟩
  rw [hk0] at hF
  have HK := Lib.hid hk0
  have hn30 : n ≤ 30 := by omega
  obtain ⟨R, hR⟩ : ∃ R, putL X l = R := ⟨_, rfl⟩
  obtain ⟨Bo, hBo⟩ : ∃ B, putB X l = B := ⟨_, rfl⟩
  rw [hR, hBo]
  have HR := Lib.hid hR
  have HBo := Lib.hid hBo
  clear hq hlen hX hX1 hk0 hst row hr hR hBo
  go_enter Tryz.func22, Tryz.ntmps22
  go_wp2_with fail
  go_at_call 60
  refine (hS _ hrA (Nat.le_trans hh hsA)).mono ?_
  rintro e w2 ⟨rfl, hb2⟩
  have hr2 := hrA.below hb2
  have row2 := rowA.below hb2
  have Qr2 := Qr.below hb2
  have hs2 := Nat.le_trans hsA hb2.size
  have hB2 := hA.trans (hb2.mono hsA)
  obtain ⟨q0, q1, q2, q3, q4⟩ := Qr2.cells
  clear hS hrA rowA Qr hA
  go_wp2_with fail
  go_at_call 12
  refine (hD _ row2).mono ?_
  rintro e w3 ⟨rfl, hb3⟩
  have hr3 := hr2.below hb3
  have row3 := row2.below hb3
  have Qr3 := Qr2.below hb3
  have hs3 := Nat.le_trans hs2 hb3.size
  have hB3 := hB2.trans (hb3.mono hs2)
  clear hD hr2 row2 Qr2 q0 q1 q2 q3 q4
  go_wp2_with fail
  go_at_call 45
  refine (hF _ hr3).mono ?_
  rintro e w4 ⟨rfl, rfl⟩
  clear hF
  go_wp2_with fail
  go_at_call 57
  refine (hC _ hr3 (Nat.le_trans hh hs3)).mono ?_
  rintro e w5 ⟨v8, G8, rfl, hv8, hb5⟩
  have hr5 := hr3.below hb5
  have row5 := row3.below hb5
  have Qr5 := Qr3.below hb5
  have hs5 := Nat.le_trans hs3 hb5.size
  have hB5 := hB3.trans (hb5.mono hs3)
  have hv8 := hv8.down hs3
  obtain ⟨va8, vc8, rfl, hvn, hvm, hvo⟩ := hv8.shape
  clear hr3 row3 Qr3
  go_upto_if 23 with fail
  go_cut [8] (fun s wx => ∃ v G, s = v ∧ PBuf 62 w.heap.size wx.heap.size wx v (pd X l).length (pd X l) G ∧ Below w.heap.size w wx)
  case first =>
    by_cases hfd : fnd X.d l < l.length
    · have hk : k0 = (fnd X.d l : Int) := by rw [← HK.out]; unfold found; rw [if_pos hfd]
      obtain ⟨K, hK⟩ : ∃ K, fnd X.d l = K := ⟨_, rfl⟩
      have hp := pd_found hrise hfd
      rw [hK] at hk hfd hp
      subst hk
      have hKn : K < n := by have := HL.out; omega
      have hu := okP_uses (hok _ (pt_mem hfd))
      have wP : (inc (pt l K)).Wf := (hvo.wf _ (pt_mem hfd)).inc hu.2
      obtain ⟨g', cap', he⟩ : ∃ g cap, Value.slice va8 n vc8 = .slice (some ⟨g, 0, none⟩) n cap := by
        rcases hv8.row.2 with ⟨_, h0⟩ | ⟨g, cap, cur, e, _⟩
        · omega
        · exact ⟨g, cap, e⟩
      injection he with he1 _ he3
      subst he1 he3
      obtain ⟨hv9, hb9⟩ := hv8.used hKn wP
      have c6 := (hv8.cells rfl K hKn).c6
      have fz := hv8.row.frozenAt (K * 7 + 6)
      rw [← hp] at hv9
      have hw1 : IntKind.wrap .i64 ((pt l K).u + 1) = (pt l K).u + 1 := by rw [IntKind.wrap_i64]; omega
      have hlt : ((K : Nat) : Int) < (n : Int) := by omega
      have hplen : (pd X l).length = n := by rw [hp]; simp [HL.out]
      have Hp := Lib.hid hplen
      have hsz : (w5.setCell ⟨g', K * 7 + 6, none⟩ (.int .i64 ((pt l K).u + 1))).heap.size = w5.heap.size := size_set _ _ _
      clear hK hp hplen hvo hv8 hrm hpl
      go_wp2_with fail
      go_meet
      case rel => exact ⟨_, G8, rfl, by rw [hsz, Hp.out]; exact hv9, hB5.trans hb9⟩
    · have hk : k0 = -1 := by rw [← HK.out]; unfold found; rw [if_neg hfd]
      subst hk

      go_upto_block 0 with fail
      go_cut [7] (fun s wx => ∃ j : Nat, s = .int .i64 j ∧ j ≤ n ∧ Lower X.d l j ∧ (j < n → ¬ (pt l j).d < X.d) ∧ w5 = wx)
      case first =>
        go_wp2_with fail
        go_loopw [7] (fun i wr => ∃ j : Nat, j ≤ n ∧ i = .int .i64 j ∧ Lower X.d l j ∧ wr = w5) (fun i _ => n - (Go.RowKit.intOf i).toNat)
        case atStart => exact ⟨0, Nat.zero_le _, rfl, Lower.zero _ _, rfl⟩
        case round =>
          obtain ⟨j, hj, rfl, hl, rfl⟩ := hrel
          by_cases hlt : j < n
          · obtain ⟨b, off, Aj, cj, rfl, _, _, hc, _, _⟩ := hr5.at hlt
            have c0 := hc.c0
            by_cases he : (pt l j).d < X.d
            · have hd : decide ((pt l j).d < X.d) = true := by simp [he]
              have hl' := hl.next he
              clear hc
              go_wp2
              go_roundw
              case rel => exact ⟨j + 1, by omega, by go_num, hl', trivial⟩
              case measure => simp [Go.RowKit.intOf]; omega
            · have hd : decide ((pt l j).d < X.d) = false := by simp; omega
              clear hc
              go_wp2_with fail
              go_meet
              case rel => exact ⟨j, rfl, hj, hl, fun _ => he, rfl⟩
          · have hd : decide ((j : Int) < (n : Int)) = false := by simp; omega
            go_wp2_with fail
            go_meet
            case rel => exact ⟨j, rfl, hj, hl, fun h => absurd h hlt, rfl⟩
      case rest =>
        obtain ⟨j, rfl, hj, hlow, hge, rfl⟩ := hcut
        have hln := HL.out
        have HS := Lib.hid (hlow.split (by omega) hfd (fun h => hge (by omega)))
        have HT := Lib.hid (show ((l.take j ++ [X]) ++ l.drop j).length = j + 1 + (n - j) by simp; omega)
        have hrd := room_drop l j
        have hC5 := fun W r => Draw.copy5 lo2 hi2 X.k X.h X.p X.q W A X.zs.length cr X.zs r hzX
        obtain ⟨aD, haD⟩ : ∃ aD, aD = (if c = j then a else a.map (·.add (j * 7))) := ⟨_, rfl⟩
        have hsl2 := fun W => cut_tail W a n c j hj
        rw [← haD] at hsl2
        have hC12 := fun W r h => copy_spec lo hi W aD (n - j) (c - j) (l.drop j) r h (Nat.le_trans hrd hm)
        have hrD : PRow lo hi w5 aD (n - j) (l.drop j) := by
          by_cases hjn : n = j
          · exact hr5.drop_any hjn aD
          · obtain ⟨b, off, e, _⟩ := hr5.here (by omega)
            rw [haD, if_neg (by omega), e]
            rw [e] at hr5
            show PRow lo hi w5 (some ((⟨b, off, none⟩ : Addr).add (j * 7))) (n - j) (l.drop j)
            rw [add_pl]
            exact hr5.drop hj
        clear haD hln hlow hge hrm hpl hv8 hvo hvn hvm
        go_wp2_with fail
        go_at_call 57
        refine (hC _ hr5 (Nat.le_trans hh hs5)).mono ?_
        rintro e w6 ⟨v9, G9, rfl, hv9, hb6⟩
        have hs6 := hb6.size
        have hr6 : PRow lo hi w6.drew aD (n - j) (l.drop j) := (hrD.below hb6).drewN 1
        have row6 : Row .i64 lo2 hi2 w6.drew A X.zs.length X.zs := (row5.below hb6).drewN 1
        have hQ6 := Qr5.lt
        have Qr6 := (Qr5.below hb6).drew
        have hB6 := (hB5.trans (hb6.mono hs5)).drew
        obtain ⟨va9, vc9, rfl, hvn, hvm, _⟩ := hv9.shape
        have hsl1 := fun W => cut_head W va9 n vc9 j (Nat.le_trans hj hvn)
        have hx : PBuf 62 w5.heap.size w6.heap.size w6.drew (.slice va9 j vc9) j (l.take j) (G9.take j) := (hv9.take hj).keep (fun _ _ _ _ => rfl)
        have Qr := Qr6
        clear hrD row5 Qr5 hr5 hC hv9
        go_upto_region 12 with fail
        refine wp_region_held_drew (S := (fun w' => w'.cell? ⟨w.heap.size, 0, none⟩ = some (.int .i64 X.k) ∧ w'.cell? ⟨w.heap.size, 1, none⟩ = some (.slice A X.zs.length cr) ∧ w'.cell? ⟨w.heap.size, 2, none⟩ = some (.int .i64 X.h) ∧ w'.cell? ⟨w.heap.size, 3, none⟩ = some (.int .i64 X.p) ∧ w'.cell? ⟨w.heap.size, 4, none⟩ = some (.int .i64 X.q))) (by kernel_rfl) Qr6.cells (fun hHeld => ?_)
        refine wpAnyH_take (i := 0) (v := ?va0) (List.getElem?_toArray.trans rfl) (by kernel_rfl) (by kernel_rfl) (by kernel_rfl) (fun _ _ _ h => h) (Or.inl ⟨by rfl, ?ya0⟩) (by assumption) ?ra0
        case ya0 => (intro w hSw; (try dsimp only at hSw); go_simp; try with_reducible rfl)
        try simp only [Act.put, List.setIfInBounds_toArray, List.set_cons_zero, List.set_cons_succ]
        refine wpAnyH_take (i := 1) (v := ?va1) (List.getElem?_toArray.trans rfl) (by kernel_rfl) (by kernel_rfl) (by kernel_rfl) (fun _ _ _ h => h) (Or.inl ⟨by rfl, ?ya1⟩) (by assumption) ?ra1
        case ya1 => (intro w hSw; (try dsimp only at hSw); go_simp; try with_reducible rfl)
        try simp only [Act.put, List.setIfInBounds_toArray, List.set_cons_zero, List.set_cons_succ]
        refine wpAnyH_take (i := 2) (v := ?va2) (List.getElem?_toArray.trans rfl) (by kernel_rfl) (by kernel_rfl) (by kernel_rfl) (fun _ _ _ h => h) (Or.inl ⟨by rfl, ?ya2⟩) (by assumption) ?ra2
        case ya2 => (intro w hSw; (try dsimp only at hSw); go_simp; try with_reducible rfl)
        try simp only [Act.put, List.setIfInBounds_toArray, List.set_cons_zero, List.set_cons_succ]
        refine wpAnyH_take (i := 3) (v := ?va3) (List.getElem?_toArray.trans rfl) (by kernel_rfl) (by kernel_rfl) (by kernel_rfl) (fun _ _ _ h => h) (Or.inl ⟨by rfl, ?ya3⟩) (by assumption) ?ra3
        case ya3 => (intro w hSw; (try dsimp only at hSw); go_simp; try with_reducible rfl)
        try simp only [Act.put, List.setIfInBounds_toArray, List.set_cons_zero, List.set_cons_succ]
        refine wpAnyH_take (i := 4) (v := ?va4) (List.getElem?_toArray.trans rfl) (by kernel_rfl) (by kernel_rfl) (by kernel_rfl) (fun _ _ _ h => h) (Or.inl ⟨by rfl, ?ya4⟩) (by assumption) ?ra4
        case ya4 => (intro w hSw; (try dsimp only at hSw); go_simp; try with_reducible rfl)
        try simp only [Act.put, List.setIfInBounds_toArray, List.set_cons_zero, List.set_cons_succ]
        refine wpAnyH_take (i := 9) (v := ?va9) (List.getElem?_toArray.trans rfl) (by kernel_rfl) (by kernel_rfl) (by kernel_rfl) (fun _ _ _ h => h) (Or.inl ⟨by rfl, ?ya9⟩) (by assumption) ?ra9
        case ya9 => (intro w hSw; (try dsimp only at hSw); go_simp; try with_reducible rfl)
        try simp only [Act.put, List.setIfInBounds_toArray, List.set_cons_zero, List.set_cons_succ]
        refine wpAnyH_take (i := 10) (v := ?va10) (List.getElem?_toArray.trans rfl) (by kernel_rfl) (by kernel_rfl) (by kernel_rfl) (fun _ _ _ h => h) (Or.inl ⟨by rfl, ?ya10⟩) (by assumption) ?ra10
        case ya10 => (intro w hSw; (try dsimp only at hSw); go_simp; try with_reducible rfl)
        try simp only [Act.put, List.setIfInBounds_toArray, List.set_cons_zero, List.set_cons_succ]
        refine wpAnyH_take (i := 11) (v := ?va11) (List.getElem?_toArray.trans rfl) (by kernel_rfl) (by kernel_rfl) (by kernel_rfl) (fun _ _ _ h => h) (Or.inl ⟨by rfl, ?ya11⟩) (by assumption) ?ra11
        case ya11 => (intro w hSw; (try dsimp only at hSw); go_simp; try with_reducible rfl)
        try simp only [Act.put, List.setIfInBounds_toArray, List.set_cons_zero, List.set_cons_succ]
        refine wpAnyH_ready (rs := [5]) (by kernel_rfl) (by simp) ?_
        refine AllReadyH.cons (List.getElem?_toArray.trans rfl) (fun Kc hKc => ?_) AllReadyH.nil
        go_simp
        go_at_call 46
        refine (hC5 _ row6).mono ?_
        rintro e wA ⟨a5, c5, rfl, hO, hnc5, hcm5, hb5⟩
        have z5 : w6.heap.size ≤ wA.heap.size := hb5.size
        have hO : Own .i64 w6.heap.size wA.heap.size wA a5 X.zs.length X.zs := hO
        have Qr := Qr.below hb5
        have hx := hx.below hb5
        have hr6 := hr6.below hb5
        have hB6 := hB6.trans (hb5.mono hB6.size)
        have s9 := Qr.cells
        refine hKc.out _ _ s9 (fun hHeld => ?_)
        clear hKc Kc
        try simp only [Act.put, List.setIfInBounds_toArray, List.set_cons_zero, List.set_cons_succ]
        refine wpAnyH_take (i := 6) (v := ?vn16) (List.getElem?_toArray.trans rfl) (by kernel_rfl) (by kernel_rfl) (by kernel_rfl) (fun _ _ _ h => h) (Or.inl ⟨by rfl, ?yn16⟩) (by assumption) ?rn16
        case yn16 => (intro w hSw; (try dsimp only at hSw); go_simp; try with_reducible rfl)
        try simp only [Act.put, List.setIfInBounds_toArray, List.set_cons_zero, List.set_cons_succ]
        refine wpAnyH_ready (rs := [7]) (by kernel_rfl) (by simp) ?_
        refine AllReadyH.cons (List.getElem?_toArray.trans rfl) (fun Kc hKc => ?_) AllReadyH.nil
        go_simp
        have hA7 : Below wA.heap.size wA (wA.alloc (.cells #[.int .i64 X.d, .int .i64 X.k, .slice a5 X.zs.length c5, .int .i64 X.h, .int .i64 X.p, .int .i64 X.q, .int .i64 1] 62)) := (Below.refl _ _).alloc (Nat.le_refl _) _
        have z7 : (wA.alloc (.cells #[.int .i64 X.d, .int .i64 X.k, .slice a5 X.zs.length c5, .int .i64 X.h, .int .i64 X.p, .int .i64 X.q, .int .i64 1] 62)).heap.size = wA.heap.size + 1 := size_alloc _ _
        have sA : Sept 62 wA.heap.size (.int .i64 X.d) (.int .i64 X.k) (.slice a5 X.zs.length c5) (.int .i64 X.h) (.int .i64 X.p) (.int .i64 X.q) (.int .i64 X.u) (wA.alloc (.cells #[.int .i64 X.d, .int .i64 X.k, .slice a5 X.zs.length c5, .int .i64 X.h, .int .i64 X.p, .int .i64 X.q, .int .i64 1] 62)) := by rw [HX1.out]; exact Sept.new 62 (.int .i64 X.d) (.int .i64 X.k) (.slice a5 X.zs.length c5) (.int .i64 X.h) (.int .i64 X.p) (.int .i64 X.q) (.int .i64 1) wA
        have Qr := Qr.below hA7
        have hx := hx.below hA7
        have hr6 := hr6.below hA7
        have hO := hO.below hA7
        have hB6 := hB6.trans (hA7.mono hB6.size)
        have s9 := Qr.cells
        refine hKc.out _ _ s9 (fun hHeld => ?_)
        clear hKc Kc
        try simp only [Act.put, List.setIfInBounds_toArray, List.set_cons_zero, List.set_cons_succ]
        refine wpAnyH_ready (rs := [8]) (by kernel_rfl) (by simp) ?_
        refine AllReadyH.cons (List.getElem?_toArray.trans rfl) (fun Kc hKc => ?_) AllReadyH.nil
        have hOA := hO.more (lo' := w6.heap.size) (hi' := (wA.alloc (.cells #[.int .i64 X.d, .int .i64 X.k, .slice a5 X.zs.length c5, .int .i64 X.h, .int .i64 X.p, .int .i64 X.q, .int .i64 1] 62)).heap.size) (by omega) (by omega)
        refine step_append_parts_at (M := w6.heap.size) rfl _ _ rfl hx (News.one sA hOA hnc5 hcm5 hw) ?c1 ?c2 ?c3 rfl rfl ?_
        case c1 => omega
        case c2 => omega
        case c3 => omega
        intro v8' wC h8 hbC hgr hat
        have z8 : (wA.alloc (.cells #[.int .i64 X.d, .int .i64 X.k, .slice a5 X.zs.length c5, .int .i64 X.h, .int .i64 X.p, .int .i64 X.q, .int .i64 1] 62)).heap.size ≤ wC.heap.size := hgr.size
        have Qr := Qr.under hbC hQ6
        have hr6 := hr6.under hbC (by omega)
        have hB6 := hB6.trans (hbC.mono hs5)
        have s9 := Qr.cells
        refine hKc.out _ _ s9 (fun hHeld => ?_)
        clear hKc Kc
        try simp only [Act.put, List.setIfInBounds_toArray, List.set_cons_zero, List.set_cons_succ]
        refine wpAnyH_ready (rs := [12]) (by kernel_rfl) (by simp) ?_
        refine AllReadyH.cons (List.getElem?_toArray.trans rfl) (fun Kc hKc => ?_) AllReadyH.nil
        go_simp
        go_at_call 57
        refine (hC12 _ hr6 (by show hi ≤ wC.heap.size; omega)).mono ?_
        rintro e wL ⟨v12, G12, rfl, hy, hb12⟩
        have z12 : wC.heap.size ≤ wL.heap.size := hb12.size
        have hy : PBuf 62 wC.heap.size wL.heap.size wL v12 (n - j) (l.drop j) G12 := hy
        have Qr := Qr.below hb12
        have h8 := h8.below hb12
        have hB6 := hB6.trans (hb12.mono hB6.size)
        have hoff : Off wC.heap.size wL.heap.size _ _ _ _ := h8.off (Nat.le_refl _)
        have s9 := Qr.cells
        refine hKc.out _ _ s9 (fun hHeld => ?_)
        clear hKc Kc
        try simp only [Act.put, List.setIfInBounds_toArray, List.set_cons_zero, List.set_cons_succ]
        refine wpAnyH_ready (rs := [13]) (by kernel_rfl) (by simp) ?_
        refine AllReadyH.cons (List.getElem?_toArray.trans rfl) (fun Kc hKc => ?_) AllReadyH.nil
        refine step_append_list rfl _ _ rfl h8 hy hoff ?d1 ?d2 ?d3 ?d4 ?d5 rfl rfl ?_
        case d1 => omega
        case d2 => omega
        case d3 => omega
        case d4 => omega
        case d5 => omega
        intro v13 wD hv13 hbD
        have Qr := Qr.under hbD hQ6
        have hB6 := hB6.trans (hbD.mono hs5)
        have hv13 := hv13.down hs5
        have s9 := Qr.cells
        refine hKc.out _ _ s9 (fun hHeld => ?_)
        clear hKc Kc
        try simp only [Act.put, List.setIfInBounds_toArray, List.set_cons_zero, List.set_cons_succ]
        refine wpAnyH_take (i := 14) (v := ?vn514) (List.getElem?_toArray.trans rfl) (by kernel_rfl) (by kernel_rfl) (by kernel_rfl) (fun _ _ _ h => h) (Or.inl ⟨by rfl, ?yn514⟩) (by assumption) ?rn514
        case yn514 => (intro w hSw; (try dsimp only at hSw); go_simp; try with_reducible rfl)
        try simp only [Act.put, List.setIfInBounds_toArray, List.set_cons_zero, List.set_cons_succ]
        refine wpAnyH_done (by kernel_rfl) ?_ _
        go_wp2_with fail
        go_meet
        case rel => exact ⟨_, _, rfl, by rw [HS.out, HT.out]; exact hv13, hB6⟩

  case rest =>
  obtain ⟨v, G, rfl, hv, hBx⟩ := hcut
  obtain ⟨va, vc, rfl, _, _, hpo⟩ := hv.shape
  have hsx := hBx.size
  have hSt := store_spec _ _ wc va (pd X l).length vc (pd X l) hpo.row (Nat.le_refl _) (Nat.le_trans hrm hm2)
  have hrx := H0.out.under hBx hh
  clear hpo hr5 row5 Qr5 hv8 hvo hB5
  cases hs2 : storeB (pd X l) with
  | true =>
    obtain rfl : R = pd X l := by rw [← HR.out, HPL.out, if_pos hs2]
    obtain rfl : Bo = true := by rw [← HBo.out, HPB.out, hs2]
    rw [hs2] at hSt
    clear hs2
    go_wp2_with fail
    go_at_call 60
    refine hSt.mono ?_
    rintro e w9 ⟨rfl, hb9⟩
    have hv9 := (hv.below hb9).more hb9.size
    have hB9 := hBx.trans (hb9.mono hsx)
    go_wp2
    go_ret2
    exact ⟨_, G, rfl, hv9, hB9⟩
  | false =>
    obtain rfl : R = l := by rw [← HR.out, HPL.out, if_neg (by rw [hs2]; simp)]
    obtain rfl : Bo = false := by rw [← HBo.out, HPB.out, hs2]
    rw [hs2] at hSt
    clear hs2
    go_wp2_with fail
    go_at_call 60
    refine hSt.mono ?_
    rintro e w9 ⟨rfl, hb9⟩
    have hs9 := Nat.le_trans hsx hb9.size
    have hB9 := hBx.trans (hb9.mono hsx)
    go_wp2_with fail
    go_at_call 57
    refine (hC _ (hrx.below hb9) (Nat.le_trans hh hs9)).mono ?_
    rintro e w10 ⟨v10, G10, rfl, hv10, hb10⟩
    go_wp2
    go_ret2
    exact ⟨v10, G10, rfl, by rw [HL.out]; exact hv10.down hs9, hB9.trans (hb10.mono hs9)⟩
end Go.Proofs.YtedjclnojocjkaaGreatDoor.Parts

