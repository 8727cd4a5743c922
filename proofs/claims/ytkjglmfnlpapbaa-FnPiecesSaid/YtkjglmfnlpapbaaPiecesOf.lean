/-
  The pieces of two bodies: the model; whether they are worth it.
  Conditions: the bodies lie in memory, at most 2^20 numbers each.
-/
import Derived.Test.YtkjglmfnlpapbaaPieceS
import Derived.Deep.QuietTactic
import Derived.BigQuiet
import Derived.Deep.CutBlock
import Derived.Deep.DeepCutAuto
namespace Go.Proofs.Ytkjglmfnlpapbaa.Pieces
open Go Go.RowKit Go.Proofs.Ytkjglmfnlpapbaa.Mem Go.Proofs.Ytkjglmfnlpapbaa.Adr Go.Proofs.Ytkjglmfnlpapbaa.Res Go.Proofs.Ytkjglmfnlpapbaa.Range

/-- A list of pieces of its own. -/
def CList (lo : Nat) (l : List Pc) (w : World) (e : Ending) (w' : World) : Prop :=
  ∃ a c, e = .returned (.slice a l.length c) ∧ COwn lo w'.heap.size w' a l.length l ∧ l.length ≤ c ∧ c ≤ maxLen ∧ Below lo w w'
/-- Two pieces that have just been laid, the second without new numbers. -/
theorem two_own {T : TypeId} {base n0 c0 : Nat} {w : World} {A0 : Option Addr} {f0 m0 f1 m1 : Int} {zs : List Int} (hb : base ≤ w.heap.size) (ho : Own .i64 base w.heap.size w A0 n0 zs) (hz : zs.length = n0) (hc : n0 ≤ c0) (hm : c0 ≤ maxLen) (w0 : (⟨f0, m0, zs⟩ : Pc).Wf) (w1 : (⟨f1, m1, []⟩ : Pc).Wf) :
    COwn base (w.alloc (.cells #[.int .i64 f0, .int .i64 m0, .slice A0 n0 c0, .int .i64 f1, .int .i64 m1, .slice none 0 0] T)).heap.size (w.alloc (.cells #[.int .i64 f0, .int .i64 m0, .slice A0 n0 c0, .int .i64 f1, .int .i64 m1, .slice none 0 0] T)) (some ⟨w.heap.size, 0, none⟩) 2 [⟨f0, m0, zs⟩, ⟨f1, m1, []⟩] := by
  obtain ⟨W, hW⟩ : ∃ W, W = w.alloc (.cells #[.int .i64 f0, .int .i64 m0, .slice A0 n0 c0, .int .i64 f1, .int .i64 m1, .slice none 0 0] T) := ⟨_, rfl⟩
  have hblk : W.heap[w.heap.size]? = some (.cells #[.int .i64 f0, .int .i64 m0, .slice A0 n0 c0, .int .i64 f1, .int .i64 m1, .slice none 0 0] T (0, 0)) := by
    rw [hW]; show (w.heap.push _)[w.heap.size]? = _; simp
  have hA : Below w.heap.size w W := by rw [hW]; exact (Below.refl _ _).alloc (Nat.le_refl _) _
  have hs : W.heap.size = w.heap.size + 1 := by rw [hW]; exact size_alloc _ _
  have hcell : ∀ (x : Nat) (v : Value), (#[.int .i64 f0, .int .i64 m0, .slice A0 n0 c0, .int .i64 f1, .int .i64 m1, .slice none 0 0] : Array Value)[x]? = some v → W.cell? ⟨w.heap.size, x, none⟩ = some v := fun x v hv => by
    simp only [World.cell?, hblk]
    exact hv
  have hfz : ∀ x, W.frozen? ⟨w.heap.size, x, none⟩ = false := fun x => frozen_of_row W w.heap.size x _ _ hblk
  have hoW := (ho.below hA).more (Nat.le_refl _) hA.size
  subst hz
  rw [← hW]
  refine ⟨rfl, fun P hP => ?_, fun _ => ⟨w.heap.size, 0, fun i => if i = 0 then (A0, c0) else (none, 0), rfl, hb, by omega, fun i hi => ?_, ?_⟩⟩
  · simp at hP
    rcases hP with rfl | rfl
    · exact w0
    · exact w1
  · have hi2 : i = 0 ∨ i = 1 := by omega
    rcases hi2 with rfl | rfl
    · exact ⟨⟨hcell _ _ rfl, hcell _ _ rfl, hcell _ _ rfl⟩, fun x _ => hfz _, hoW, hc, hm⟩
    · exact ⟨⟨hcell _ _ rfl, hcell _ _ rfl, hcell _ _ rfl⟩, fun x _ => hfz _, ⟨rfl, by simp [pc], fun h => absurd h (by simp [pc])⟩, Nat.zero_le _, Nat.zero_le _⟩
  · refine ⟨fun i hi x hx hp e => ?_, fun i j hi hj hne x y hx hy hpx hpy => ?_⟩
    · have hi2 : i = 0 ∨ i = 1 := by omega
      rcases hi2 with rfl | rfl
      · obtain ⟨b, off, e1, e2, e3, _⟩ := ho.here hp
        simp only [if_pos] at hx
        rw [e1] at hx
        injection hx with hx
        subst hx
        simp only at e
        omega
      · simp [pc] at hp
    · have : i = 1 ∨ j = 1 := by omega
      rcases this with rfl | rfl
      · simp [pc] at hpx
      · simp [pc] at hpy

set_option maxHeartbeats 4000000 in
set_option maxRecDepth 100000 in
theorem pieces_spec (lo hi lo2 hi2 : Nat) (w : World) (a : Option Addr) (n c : Nat) (xs : List Int) (b : Option Addr) (m d : Nat) (ys : List Int) (hr : Row .i64 lo hi w a n xs) (hs : Row .i64 lo2 hi2 w b m ys) (hcap : m ≤ d) (hn : n ≤ 1048576) (hm : m ≤ 1048576) :
    Calls Try.prog 16 #[.slice a n c, .slice b m d] w (CList w.heap.size (piecesL xs ys) w) := by
  obtain ⟨i0, hi0, hz0, hz1, hz2⟩ := info_parts Nts.info
  have hX := hr.len
  have hY := hs.len
  by_cases big : 100 < n ∨ 100 < m
  · have e : piecesL xs ys = [] := by unfold piecesL; rw [if_pos (by omega)]
    rw [e]
    have hbE : Below w.heap.size w (w.alloc (.cells #[] 36)) := (Below.refl _ _).alloc (Nat.le_refl _) _
    by_cases h1 : 100 < n
    · have d1 : decide ((n : Int) > 100) = true := by simp; omega
      have d1b : decide ((100 : Int) < n) = true := by simp; omega
      clear hr hs hX hY
      go_enter Try.func16, Try.ntmps16
      go_wp2
      go_ret
      exact ⟨_, _, rfl, COwn.nil _ _ _ _, Nat.le_refl _, Nat.zero_le _, hbE⟩
    · have d1 : decide ((n : Int) > 100) = false := by simp; omega
      have d1b : decide ((100 : Int) < n) = false := by simp; omega
      have d2 : decide ((m : Int) > 100) = true := by simp; omega
      have d2b : decide ((100 : Int) < m) = true := by simp; omega
      clear hr hs hX hY
      go_enter Try.func16, Try.ntmps16
      go_wp2
      go_ret
      exact ⟨_, _, rfl, COwn.nil _ _ _ _, Nat.le_refl _, Nat.zero_le _, hbE⟩
  have d1 : decide ((n : Int) > 100) = false := by simp; omega
  have d1b : decide ((100 : Int) < n) = false := by simp; omega
  have d2 : decide ((m : Int) > 100) = false := by simp; omega
  have d2b : decide ((100 : Int) < m) = false := by simp; omega
  have hn1 : n ≤ 100 := by omega
  have hm1 : m ≤ 100 := by omega
  have HX := Lib.hid hX
  have HY := Lib.hid hY
  obtain ⟨L, hL⟩ : ∃ L, piecesL xs ys = L := ⟨_, rfl⟩
  rw [hL]
  have HLL := Lib.hid hL
  clear big hn hm hX hY hL
  go_enter Try.func16, Try.ntmps16
  go_upto_block 0 with fail
  go_cut [5] (fun s wx => ∃ j k : Nat, s = .int .i64 j ∧ j ≤ n ∧ j ≤ m ∧ fore xs ys = j ∧ w.drewN k = wx)
  case first =>
    go_wp2_with fail
    go_loopw [5] (fun i wr => ∃ j k : Nat, j ≤ n ∧ j ≤ m ∧ i = .int .i64 j ∧ Same xs ys j ∧ wr = w.drewN k) (fun i _ => n - (Go.RowKit.intOf i).toNat)
    case atStart => exact ⟨0, 0, Nat.zero_le _, Nat.zero_le _, rfl, Same.zero _ _, rfl⟩
    case round =>
      obtain ⟨j, k, hj, hjm, rfl, hsm, rfl⟩ := hrel
      by_cases h1 : j < n
      rotate_left
      · have t1 : decide ((j : Int) < (n : Int)) = false := by simp; omega
        have hst := hsm.stop (by rw [HX.out]; omega) (by rw [HY.out]; omega) (fun h => absurd h (by rw [HX.out]; omega))
        go_upto_region 4 with fail
        go_quiet (fail)
        go_wp2_with fail
        go_meet
        case rel => exact ⟨j, _, rfl, hj, hjm, hst, by first | rfl | exact World.drewN_drewN _ _ _ | exact (World.drewN_drewN _ _ _).symm⟩
      have t1 : decide ((j : Int) < (n : Int)) = true := by simp; omega
      by_cases h2 : j < m
      rotate_left
      · have t2 : decide ((j : Int) < (m : Int)) = false := by simp; omega
        have hst := hsm.stop (by rw [HX.out]; omega) (by rw [HY.out]; omega) (fun _ h => absurd h (by rw [HY.out]; omega))
        go_upto_region 4 with fail
        go_quiet (fail)
        go_wp2_with fail
        go_meet
        case rel => exact ⟨j, _, rfl, hj, hjm, hst, by first | rfl | exact World.drewN_drewN _ _ _ | exact (World.drewN_drewN _ _ _).symm⟩
      have t2 : decide ((j : Int) < (m : Int)) = true := by simp; omega
      obtain ⟨b1, o1, ea, _, _, x0⟩ := hr.cell h1
      obtain ⟨b2, o2, eb, _, _, y0⟩ := hs.cell h2
      have g1 : (j : Int) < (n : Int) := by omega
      have g2 : (j : Int) < (m : Int) := by omega
      subst ea eb
      by_cases h3 : xs.getD j 0 = ys.getD j 0
      · have hnx := hsm.next h3
        have t3 : (xs.getD j 0 == ys.getD j 0) = true := by rw [h3]; exact beq_self_eq_true _
        obtain ⟨X, hXX⟩ : ∃ X, xs.getD j 0 = X := ⟨_, rfl⟩
        obtain ⟨Y, hYY⟩ : ∃ Y, ys.getD j 0 = Y := ⟨_, rfl⟩
        rw [hXX, hYY] at t3
        rw [hXX] at x0
        rw [hYY] at y0
        clear hXX hYY h3 hsm
        go_upto_region 4 with fail
        go_quiet (fail)
        go_wp2
        go_roundw
        case rel => exact ⟨j + 1, _, by omega, by omega, by go_num, hnx, by first | rfl | exact World.drewN_drewN _ _ _ | exact (World.drewN_drewN _ _ _).symm⟩
        case measure => simp [Go.RowKit.intOf]; omega
      · have hst := hsm.stop (by rw [HX.out]; omega) (by rw [HY.out]; omega) (fun _ _ => h3)
        have t3 : (xs.getD j 0 == ys.getD j 0) = false := beq_false_of_ne h3
        obtain ⟨X, hXX⟩ : ∃ X, xs.getD j 0 = X := ⟨_, rfl⟩
        obtain ⟨Y, hYY⟩ : ∃ Y, ys.getD j 0 = Y := ⟨_, rfl⟩
        rw [hXX, hYY] at t3
        rw [hXX] at x0
        rw [hYY] at y0
        clear hXX hYY h3 hsm
        go_upto_region 4 with fail
        go_quiet (fail)
        go_wp2_with fail
        go_meet
        case rel => exact ⟨j, _, rfl, hj, hjm, hst, by first | rfl | exact World.drewN_drewN _ _ _ | exact (World.drewN_drewN _ _ _).symm⟩
  case rest =>
  obtain ⟨j, k, rfl, hj, hjm, hfo, rfl⟩ := hcut
  have HFO := Lib.hid hfo
  clear hfo
  go_upto_block 2 with fail
  go_cut [6] (fun s wx => ∃ e q : Nat, s = .int .i64 e ∧ j + e ≤ n ∧ j + e ≤ m ∧ aft xs ys j = e ∧ w.drewN q = wx)
  case first =>
    go_wp2_with fail
    go_loopw [6] (fun i wr => ∃ e q : Nat, j + e ≤ n ∧ j + e ≤ m ∧ i = .int .i64 e ∧ SameE xs ys e ∧ wr = w.drewN q) (fun i _ => n - (Go.RowKit.intOf i).toNat)
    case atStart => exact ⟨0, k, by omega, by omega, rfl, SameE.zero _ _, rfl⟩
    case round =>
      obtain ⟨e, q, he, hem, rfl, hsm, rfl⟩ := hrel
      have w0 : IntKind.wrap .i64 ((j : Int) + (e : Int)) = (j : Int) + (e : Int) := by rw [IntKind.wrap_i64]; omega
      by_cases h1 : j + e < n
      rotate_left
      · have t1 : decide ((j : Int) + (e : Int) < (n : Int)) = false := by simp; omega
        have hst := hsm.stop (a := j) (by rw [HX.out]; omega) (by rw [HY.out]; omega) (fun h => absurd h (by rw [HX.out]; omega))
        clear hr hs
        go_upto_region 7 with fail
        go_quiet (fail)
        go_wp2_with fail
        go_meet
        case rel => exact ⟨e, _, rfl, he, hem, hst, by first | rfl | exact World.drewN_drewN _ _ _ | exact (World.drewN_drewN _ _ _).symm⟩
      have t1 : decide ((j : Int) + (e : Int) < (n : Int)) = true := by simp; omega
      by_cases h2 : j + e < m
      rotate_left
      · have t2 : decide ((j : Int) + (e : Int) < (m : Int)) = false := by simp; omega
        have hst := hsm.stop (a := j) (by rw [HX.out]; omega) (by rw [HY.out]; omega) (fun _ h => absurd h (by rw [HY.out]; omega))
        clear hr hs
        go_upto_region 7 with fail
        go_quiet (fail)
        go_wp2_with fail
        go_meet
        case rel => exact ⟨e, _, rfl, he, hem, hst, by first | rfl | exact World.drewN_drewN _ _ _ | exact (World.drewN_drewN _ _ _).symm⟩
      have t2 : decide ((j : Int) + (e : Int) < (m : Int)) = true := by simp; omega
      obtain ⟨b1, o1, ea, _, _, x0⟩ := hr.cell (j := n - 1 - e) (by omega)
      obtain ⟨b2, o2, eb, _, _, y0⟩ := hs.cell (j := m - 1 - e) (by omega)
      have w1 : IntKind.wrap .i64 ((n : Int) - 1) = (n : Int) - 1 := by rw [IntKind.wrap_i64]; omega
      have w2 : IntKind.wrap .i64 ((n : Int) - 1 - (e : Int)) = (n : Int) - 1 - (e : Int) := by rw [IntKind.wrap_i64]; omega
      have w3 : IntKind.wrap .i64 ((m : Int) - 1) = (m : Int) - 1 := by rw [IntKind.wrap_i64]; omega
      have w4 : IntKind.wrap .i64 ((m : Int) - 1 - (e : Int)) = (m : Int) - 1 - (e : Int) := by rw [IntKind.wrap_i64]; omega
      have g1 : (n : Int) - 1 - (e : Int) < (n : Int) := by omega
      have g2 : (m : Int) - 1 - (e : Int) < (m : Int) := by omega
      have g3 : 0 ≤ (n : Int) - 1 - (e : Int) := by omega
      have g4 : 0 ≤ (m : Int) - 1 - (e : Int) := by omega
      have g5 : ((n : Int) - 1 - (e : Int)).toNat = n - 1 - e := by omega
      have g6 : ((m : Int) - 1 - (e : Int)).toNat = m - 1 - e := by omega
      have hgx : xs.getD (xs.length - 1 - e) 0 = xs.getD (n - 1 - e) 0 := by rw [HX.out]
      have hgy : ys.getD (ys.length - 1 - e) 0 = ys.getD (m - 1 - e) 0 := by rw [HY.out]
      subst ea eb
      by_cases h3 : xs.getD (n - 1 - e) 0 = ys.getD (m - 1 - e) 0
      · have hnx := hsm.next (by rw [hgx, hgy]; exact h3)
        have t3 : (xs.getD (n - 1 - e) 0 == ys.getD (m - 1 - e) 0) = true := by rw [h3]; exact beq_self_eq_true _
        obtain ⟨X, hXX⟩ : ∃ X, xs.getD (n - 1 - e) 0 = X := ⟨_, rfl⟩
        obtain ⟨Y, hYY⟩ : ∃ Y, ys.getD (m - 1 - e) 0 = Y := ⟨_, rfl⟩
        rw [hXX, hYY] at t3
        rw [hXX] at x0
        rw [hYY] at y0
        clear hXX hYY h3 hsm hgx hgy hr hs
        go_upto_region 7 with fail
        go_quiet (fail)
        go_wp2
        go_roundw
        case rel => exact ⟨e + 1, _, by omega, by omega, by go_num, hnx, by first | rfl | exact World.drewN_drewN _ _ _ | exact (World.drewN_drewN _ _ _).symm⟩
        case measure => simp [Go.RowKit.intOf]; omega
      · have hst := hsm.stop (a := j) (by rw [HX.out]; omega) (by rw [HY.out]; omega) (fun _ _ => by rw [hgx, hgy]; exact h3)
        have t3 : (xs.getD (n - 1 - e) 0 == ys.getD (m - 1 - e) 0) = false := beq_false_of_ne h3
        obtain ⟨X, hXX⟩ : ∃ X, xs.getD (n - 1 - e) 0 = X := ⟨_, rfl⟩
        obtain ⟨Y, hYY⟩ : ∃ Y, ys.getD (m - 1 - e) 0 = Y := ⟨_, rfl⟩
        rw [hXX, hYY] at t3
        rw [hXX] at x0
        rw [hYY] at y0
        clear hXX hYY h3 hsm hgx hgy hr hs
        go_upto_region 7 with fail
        go_quiet (fail)
        go_wp2_with fail
        go_meet
        case rel => exact ⟨e, _, rfl, he, hem, hst, by first | rfl | exact World.drewN_drewN _ _ _ | exact (World.drewN_drewN _ _ _).symm⟩
  case rest =>
  obtain ⟨e, q, rfl, he, hem, haf, rfl⟩ := hcut
  have hLe : L = [⟨0, (j : Int), (ys.take (m - e)).drop j⟩, ⟨((n - e : Nat) : Int), (e : Int), []⟩] := by
    rw [← HLL.out]
    unfold piecesL
    rw [if_neg (by rw [HX.out, HY.out]; omega), HFO.out, haf, HX.out, HY.out]
  have w1 : IntKind.wrap .i64 ((m : Int) - (e : Int)) = (m : Int) - (e : Int) := by rw [IntKind.wrap_i64]; omega
  have w2 : IntKind.wrap .i64 ((n : Int) - (e : Int)) = (n : Int) - (e : Int) := by rw [IntKind.wrap_i64]; omega
  obtain ⟨W, hW⟩ : ∃ W, W = w.drewN q := ⟨_, rfl⟩
  have hBW : Below w.heap.size w W := by rw [hW]; exact Mem.below_drewN (Below.refl _ _) _
  have hsW : W.heap.size = w.heap.size := by rw [hW]; rfl
  have hsR : Row .i64 lo2 hi2 (W.alloc (.cells #[] 3)) b m ys := by rw [hW]; exact (hs.drewN q).below ((Below.refl _ _).alloc (Nat.le_refl _) _)
  rw [← hW]
  have hown := OwnI.made .i64 3 (base := w.heap.size) W (by omega)
  have hBA := hBW.alloc hBW.size (.cells #[] 3)
  have hsl := fun V => Nts.cut_mid V b m d (j : Int) ((m : Int) - (e : Int)) j (m - e) rfl (by omega) (by omega) (by omega)
  have hmid := Nts.Row.mid (c := d) hsR (f := j) (h := m - e) (by omega) (by omega) hcap
  obtain ⟨aD, haD⟩ : ∃ aD, (if d = j then b else b.map (·.add j)) = aD := ⟨_, rfl⟩
  obtain ⟨K, hK⟩ : ∃ K, m - e - j = K := ⟨_, rfl⟩
  obtain ⟨cD, hcD⟩ : ∃ cD, d - j = cD := ⟨_, rfl⟩
  rw [haD, hK, hcD] at hsl
  rw [haD, hK] at hmid
  have hKl : K ≤ 100 := by omega
  have hne : ((n : Int) - (e : Int)) = ((n - e : Nat) : Int) := by omega
  have HNE := Lib.hid hne
  have HLE := Lib.hid hLe
  have wj : (Lit.int .i64 (j : Int)).wf = true := WalkArith.wf_i64 (by omega)
  have we : (Lit.int .i64 (e : Int)).wf = true := WalkArith.wf_i64 (by omega)
  have wn : (Lit.int .i64 ((n : Int) - (e : Int))).wf = true := WalkArith.wf_i64 (by omega)
  clear hW haD hK hcD hr hs hne hLe haf hsR hsW
  go_wp2_with (at_builtin; refine wpList_append_row rfl _ _ 24 rfl w.heap.size 3 i0 _ 8 Try.underlying24 hi0 hz0 hz1 hz2 rfl _ 0 [] rfl hown lo2 hi2 aD K cD _ rfl hmid ?c1 ?c2 ?c3 ?_; (case c1 => unfold maxLen; omega); (case c2 => omega); (case c3 => exact hBA.size); intro v2 w2 ho2 hb2; rw [Nat.zero_add, List.nil_append] at ho2; obtain ⟨a2, c2, rfl, k1, k2, ho3⟩ := ho2.own hmid.wf)
  have hBB := hBA.trans hb2
  have hT := two_own (T := 36) (f0 := 0) (m0 := (j : Int)) (f1 := (n : Int) - (e : Int)) (m1 := (e : Int)) hBB.size ho3 hmid.len k1 k2 ⟨show (Lit.int .i64 0).wf = true by decide, wj⟩ ⟨wn, we⟩
  rw [HNE.out] at hT
  have hBC := hBB.alloc hBB.size (.cells #[.int .i64 0, .int .i64 j, .slice a2 K c2, .int .i64 ((n : Int) - (e : Int)), .int .i64 e, .slice none 0 0] 36)
  go_ret
  have e1 := HLE.out
  subst e1
  exact ⟨_, _, rfl, by rw [← HNE.out] at hT ⊢; exact hT, Nat.le_refl _, by unfold maxLen; simp, hBC⟩
theorem room_pieces {xs ys : List Int} : room (piecesL xs ys) ≤ 102 := by
  unfold piecesL
  split
  · simp [room]
  · rename_i h
    simp only [room, List.length_drop, List.length_take, List.length_nil]
    omega
def worthB (xs ys : List Int) : Bool := decide ((room (piecesL xs ys) : Int) < (ys.length : Int))

set_option maxRecDepth 100000 in
theorem worth_spec (lo hi lo2 hi2 : Nat) (w : World) (a : Option Addr) (n c : Nat) (xs : List Int) (b : Option Addr) (m d : Nat) (ys : List Int) (hr : Row .i64 lo hi w a n xs) (hs : Row .i64 lo2 hi2 w b m ys) (hcap : m ≤ d) (hn : n ≤ 1048576) (hm : m ≤ 1048576) :
    Calls Try.prog 28 #[.slice a n c, .slice b m d] w fun e w' => e = .returned (.bool (worthB xs ys)) ∧ Below w.heap.size w w' := by
  have hP := pieces_spec lo hi lo2 hi2 w a n c xs b m d ys hr hs hcap hn hm
  have hY := hs.len
  obtain ⟨L, hL⟩ : ∃ L, piecesL xs ys = L := ⟨_, rfl⟩
  have hrm := room_pieces (xs := xs) (ys := ys)
  have hw : worthB xs ys = decide ((room L : Int) < (m : Int)) := by unfold worthB; rw [hL, hY]
  rw [hw]
  rw [hL] at hP hrm
  obtain ⟨T, hT⟩ : ∃ T : Int, (room L : Int) = T := ⟨_, rfl⟩
  rw [hT]
  clear hL hw hr hs hY
  go_enter Try.func28, Try.ntmps28
  go_wp2_with fail
  go_at_call 16
  refine hP.mono ?_
  rintro e w1 ⟨a1, c1, rfl, ho, _, _, hb1⟩
  have hC := cost_spec _ _ w1 a1 L.length c1 L ho.row (by omega)
  rw [hT] at hC
  clear hP ho hT hrm
  go_wp2_with fail
  go_at_call 27
  refine hC.mono ?_
  rintro e w2 ⟨rfl, rfl⟩
  go_wp2
  go_ret
  exact ⟨rfl, hb1⟩
end Go.Proofs.Ytkjglmfnlpapbaa.Pieces
