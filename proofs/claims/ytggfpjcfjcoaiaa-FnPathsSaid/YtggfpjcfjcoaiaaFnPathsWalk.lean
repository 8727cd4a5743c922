/-
  For every row of bytes that a test is drawn from, the law FnPaths returns true: every element has a path to the root, and no other digest and no path with another number has it.
  Conditions: the argument can be read.
-/
import Derived.Test.YtggfpjcfjcoaiaaPathLaw
import Derived.Test.YtggfpjcfjcoaiaaPathW
import Derived.Test.YtggfpjcfjcoaiaaStep
namespace Go.Proofs.Ytggfpjcfjcoaiaa.FnPathsW
open Go Go.RowKit Go.Proofs.Ytggfpjcfjcoaiaa.Mem Go.Proofs.Ytggfpjcfjcoaiaa.Hsh Go.Proofs.Ytggfpjcfjcoaiaa.Tre
set_option linter.unusedVariables false

theorem bytes_under {B C : Nat} {w w' : World} {a : Option Addr} {n : Nat} (h : Draw.Bytes B w a n) (hb : Below C w w') (hB : B ≤ C) : Draw.Bytes B w' a n :=
  ⟨h.1, fun j hj => by
    obtain ⟨b, off, x, ha, hbB, hx, hc⟩ := h.2 j hj
    exact ⟨b, off, x, ha, hbB, hx, by rw [Mem.cell_of_heap (hb.block b (by omega))]; exact hc⟩⟩

set_option maxHeartbeats 8000000 in
set_option maxRecDepth 100000 in
theorem walk_small (a : Option Addr) (n c : Nat) (w : World) (hb : Draw.Bytes w.heap.size w a n) (hn : n ≤ 1048576) :
    Calls Try.prog 3 #[.slice a n c] w fun e w' => e = .returned (.bool true) ∧ Below w.heap.size w w' := by
  obtain ⟨i0, hi0, hz0, hz1, hz2⟩ := info_parts Nts.info
  go_enter Try.func3, Try.ntmps3
  go_wp2_with (go_at_call 8; go_in)
  go_at_call 9
  refine (Draw.draw_path w.heap.size a n c _ hb (Nat.le_refl _)).mono ?_
  rintro e w1 ⟨a1, n1, c1, zs, i, rfl, hr1, hc1, hm1, hn1, hg, li0, li1, hb1⟩
  have hs1 := hb1.size
  have hl := hr1.len
  have hP := path_impl_row _ _ n1 c1 i w1 a1 zs hr1 hc1 hm1 (by omega) (Nat.le_refl _)
  by_cases hio : i < 0 ∨ (n1 : Int) ≤ i
  · rw [pth_out (by omega), List.length_nil] at hP
    have hD := fun W => depth_impl n1 i W
    rw [depthOf_out (by omega)] at hD
    obtain ⟨r, hr⟩ : ∃ r, Hid (root zs = r) := ⟨_, rfl⟩
    have hK : okPath r n1 i 5 [] = false := okPath_no (by rw [depthOf_out (by omega)]; simp)
    have hC := fun (a2 : Option Addr) (c2 : Nat) (W : World) => check_impl 0 0 0 c2 r n1 i 5 W a2 [] (Row.nil _ _ _ _ _) (Nat.zero_le _) (by omega) (WalkArith.wf_i64 (by omega))
    rw [hK] at hC
    have hcase : decide (i < 0) = true ∨ (decide (i < 0) = false ∧ decide ((n1 : Int) ≤ i) = true) := by simp; omega
    clear hK hl hio
    rcases hcase with e1 | ⟨e1, e2⟩
    all_goals
      go_wp2_with fail
      go_at_call 10
      refine hP.mono ?_
      rintro e w2 ⟨a2, c2, rfl, ho2, hc2, hm2, hb2⟩
      have hB2 := hb1.trans (hb2.mono hs1)
      have hR := root_impl _ _ n1 c1 w2 a1 zs (hr1.below hb2) hc1 hm1 (by omega)
      rw [hr.out] at hR
      go_wp2_with fail
      go_at_call 11
      refine hR.mono ?_
      rintro e w3 ⟨rfl, hb3⟩
      have hB3 := hB2.trans (hb3.mono hB2.size)
      go_wp2_with fail
      go_at_call 12
      refine (hD _).mono ?_
      rintro e w4 ⟨rfl, hb4⟩
      have hB4 := hB3.trans (hb4.mono hB3.size)
      go_wp2_with fail
      go_at_call 13
      refine (hC _ _ _).mono ?_
      rintro e w5 ⟨rfl, hb5⟩
      have hB5 := hB4.trans (hb5.mono hB4.size)
      go_wp2
      go_ret
      exact ⟨rfl, hB5⟩
  · obtain ⟨I, rfl⟩ : ∃ I : Nat, i = (I : Int) := ⟨i.toNat, by omega⟩
    have hI : I < n1 := by omega
    rw [pth_in (by omega) (by omega), Int.toNat_natCast] at hP
    obtain ⟨b, off, rfl, hb0, hb9, hcell⟩ := hr1.cell hI
    have hdr := hg.at I
    have K0 := law_at (zs := zs) (I := I) (by omega) (by omega)
    have K1 := law_digest (zs := zs) (I := I) (e := zs.getD I 0 + 1) (by omega) (by omega) (by omega)
    have K2 := fun (j : Nat) (hj : j < (pathOf zs I).length) => law_beside (zs := zs) (I := I) (j := j) (z := (pathOf zs I).getD j 0 + 1) (by omega) (by omega) hj (by omega)
    have KD := depth_at (zs := zs) (I := I) (by omega) (by omega)
    have KR := path_range hg I
    have KL : (pathOf zs I).length ≤ n1 := by rw [pathOf_len, hl]; exact dep_at _ _
    obtain ⟨ps, hps⟩ : ∃ ps, Hid (pathOf zs I = ps) := ⟨_, rfl⟩
    obtain ⟨d, hd⟩ : ∃ d, Hid (zs.getD I 0 = d) := ⟨_, rfl⟩
    obtain ⟨r, hr⟩ : ∃ r, Hid (root zs = r) := ⟨_, rfl⟩
    rw [hps.out] at hP K0 K1 KD KR KL
    simp only [hps.out, hd.out, hr.out] at K2
    rw [hd.out] at K0 K1 hdr hcell
    rw [hr.out] at K0 K1
    rw [hl] at K0 K1 K2 KD
    obtain ⟨m, hm⟩ : ∃ m, Hid (ps.length = m) := ⟨_, rfl⟩
    rw [hm.out] at hP KD KL
    have HK2 := Lib.hid K2
    have HKR := Lib.hid KR
    obtain ⟨d0, d1⟩ := hdr
    have hC0 := fun lo hi c2 W a2 h1 h2 => check_impl lo hi m c2 r n1 I d W a2 ps h1 h2 (by omega) (WalkArith.wf_i64 (by omega))
    have hC1 := fun lo hi c2 W a2 h1 h2 => check_impl lo hi m c2 r n1 I (d + 1) W a2 ps h1 h2 (by omega) (WalkArith.wf_i64 (by omega))
    rw [K0] at hC0
    rw [K1] at hC1
    have hDp := fun W => depth_impl n1 I W
    rw [KD] at hDp
    have e1 : decide ((I : Int) < 0) = false := by simp
    have e2 : decide ((n1 : Int) ≤ (I : Int)) = false := by simp; omega
    have e3 : ((m : Int) == (m : Int)) = true := by simp
    have e4 : ((m : Int) != (m : Int)) = false := by simp
    clear K0 K1 K2 KD KR hio hl
    go_wp2_with fail
    go_at_call 10
    refine hP.mono ?_
    rintro e w2 ⟨a2, c2, rfl, ho2, hc2, hm2, hb2⟩
    have hs2 := hb2.size
    have hB2 := hb1.trans (hb2.mono hs1)
    have hr2 := hr1.below hb2
    have hR := root_impl _ _ n1 c1 w2 _ zs hr2 hc1 hm1 (by omega)
    rw [hr.out] at hR
    have hc2' := (cell_of_heap (hb2.block b (by omega))).trans hcell
    clear hP hr1 hcell
    go_wp2_with fail
    go_at_call 11
    refine hR.mono ?_
    rintro e w3 ⟨rfl, hb3⟩
    have hs3 := hb3.size
    have hB3 := hB2.trans (hb3.mono hB2.size)
    have ho3 := ho2.below hb3
    have hc3 := (cell_of_heap (hb3.block b (by omega))).trans hc2'
    have hK := hC0 _ _ c2 _ _ ho3.row hs3
    clear hR hr2 ho2 hc2'
    go_wp2_with fail
    go_at_call 13
    refine hK.mono ?_
    rintro e w4 ⟨rfl, hb4⟩
    have hs4 := hb4.size
    have hB4 := hB3.trans (hb4.mono hB3.size)
    have ho4 := ho3.below hb4
    have hc4 := (cell_of_heap (hb4.block b (by omega))).trans hc3
    have hK1 := hC1 _ _ c2 _ _ ho4.row (by omega)
    clear hK hC0 ho3 hc3 hB3
    go_wp2_with fail
    go_at_call 13
    refine hK1.mono ?_
    rintro e w5 ⟨rfl, hb5⟩
    have hs5 := hb5.size
    have hB5 := hB4.trans (hb5.mono hB4.size)
    have ho5 := ho4.below hb5
    have hc5 := (cell_of_heap (hb5.block b (by omega))).trans hc4
    have hK2 := hDp w5
    clear hK1 hC1 ho4 hc4 hB4
    go_wp2_with fail
    go_at_call 12
    refine hK2.mono ?_
    rintro e w6 ⟨rfl, hb6⟩
    have hs6 := hb6.size
    have hB6 := hB5.trans (hb6.mono hB5.size)
    have ho6 := ho5.below hb6
    have hc6 := (cell_of_heap (hb6.block b (by omega))).trans hc5
    clear hK2 hDp ho5 hc5 hB5 hb2 hb3 hb4 hb5 hb6 hb1
    go_wp2_with fail
    go_loopw [7, 8] (fun k q wr => ∃ j : Nat, j ≤ m ∧ k = .int .i64 j ∧ Below w6.heap.size w6 wr) (fun k _ _ => m - (intOf k).toNat)
    case atStart => exact ⟨0, Nat.zero_le _, rfl, Below.refl _ _⟩
    case round =>
      obtain ⟨j, hj, rfl, hbr⟩ := hrel
      have hsr := hbr.size
      have hor := ho6.below hbr
      have hcr := (cell_of_heap (hbr.block b (by omega))).trans hc6
      have hBr := hB6.trans (hbr.mono hB6.size)
      by_cases hlt : j < m
      · have hlt' : decide ((j : Int) < (m : Int)) = true := by simp; omega
        have hown := OwnI.made .i64 3 (base := wr.heap.size) wr (Nat.le_refl _)
        have hb8 := (Below.refl wr.heap.size wr).alloc (Nat.le_refl _) (.cells #[] 3)
        have hr8 := hor.row.below hb8
        clear ho6 hc6 hB6
        go_upto_region 14 with (at_builtin; refine wpList_append_row rfl _ _ 24 rfl wr.heap.size 3 i0 _ 8 Try.underlying24 hi0 hz0 hz1 hz2 rfl _ 0 [] rfl hown w1.heap.size w2.heap.size a2 m c2 ps rfl hr8 ?c1 ?c2 ?c3 ?_; (case c1 => unfold maxLen; omega); (case c2 => omega); (case c3 => exact hb8.size); intro v9 w9 ho9 hb9)
        rw [Nat.zero_add, List.nil_append] at ho9
        have hb89 := hb8.trans hb9
        have hs9 := hb89.size
        have hB9 := hBr.trans (hb89.mono hBr.size)
        obtain ⟨q9, c9, rfl, f1, f2, f3⟩ := ho9.own HKR.out.wf
        have hzr := HKR.out.at j
        have hk2 := HK2.out j (by rw [hm.out]; exact hlt)
        obtain ⟨g, goff, rfl, hg0, hg1, hall⟩ := f3.here (by omega)
        obtain ⟨hcI, hfI⟩ := hall j hlt
        obtain ⟨z, hz⟩ : ∃ z, Hid (ps.getD j 0 = z) := ⟨_, rfl⟩
        rw [hz.out] at hcI hzr hk2
        obtain ⟨z0, z1⟩ := hzr
        have hset := f3.set j (z + 1) hlt (WalkArith.wf_i64 (by omega))
        have hcz : (w9.setCell ⟨g, goff + j, none⟩ (.int .i64 (z + 1))).cell? ⟨b, off + I, none⟩ = some (.int .i64 d) := by
          rw [cell_of_heap (heap_setCell_other _ _ _ _ (by simp; omega)), cell_of_heap (hb89.block b (by omega))]
          exact hcr
        have hck := check_impl _ _ m c9 r n1 I d _ _ _ hset.row (by simp) (by omega) (WalkArith.wf_i64 (by omega))
        rw [hk2] at hck
        have hlt3 : (j : Int) < (m : Int) := by omega
        have hlt4 : (0 : Int) ≤ (j : Int) := by omega
        have hBs : Below wr.heap.size wr (w9.setCell ⟨g, goff + j, none⟩ (.int .i64 (z + 1))) := hb89.setCell (by simp; omega) _
        clear hall hset hk2 hown hr8 hb8 hb9 ho9 f3 hB9 hb89 hor
        go_wp2_with fail
        go_at_call 13
        refine hck.mono ?_
        rintro e w10 ⟨rfl, hb10⟩
        have hbx := hbr.trans ((hBs.trans (hb10.mono hBs.size)).mono hsr)
        clear hck hBs hb10 hcz hcI hfI hcr hBr
        go_wp2
        go_roundw
        case rel => exact ⟨j + 1, by omega, by go_num, hbx⟩
        case measure => simp [intOf]; omega
      · have hlt' : decide ((j : Int) < (m : Int)) = false := by simp; omega
        have hbt := bytes_under hb hBr (Nat.le_refl _)
        clear ho6 hc6 hB6 hor hcr
        go_wp2_with fail
        go_at_call 14
        refine (Draw.draw_check w.heap.size a n c _ hbt hBr.size).mono ?_
        rintro e w7 ⟨r7, n7, i7, d7, a7, m7, c7, qs, rfl, wd7, hr7, hm7, hb7⟩
        have hB7 := hBr.trans (hb7.mono hBr.size)
        have hL := check_last _ _ m7 c7 r7 n7 i7 d7 w7 a7 qs hr7 (Nat.le_refl _) (by omega) wd7
        clear hbt hr7 hBr hb7
        rcases hL with hL | ⟨hL, hE⟩
        · go_wp2_with fail
          go_at_call 13
          refine hL.mono ?_
          rintro e w8 ⟨rfl, hb8⟩
          have hB8 := hB7.trans (hb8.mono hB7.size)
          go_wp2
          go_ret
          exact ⟨rfl, hB8⟩
        · have e7 : ((m7 : Int) == (m7 : Int)) = true := by simp
          go_wp2_with fail
          go_at_call 13
          refine hL.mono ?_
          rintro e w8 ⟨rfl, hb8⟩
          have hB8 := hB7.trans (hb8.mono hB7.size)
          go_wp2_with fail
          go_at_call 12
          refine (hE _).mono ?_
          rintro e w9 ⟨rfl, hb9⟩
          have hB9 := hB8.trans (hb9.mono hB8.size)
          go_wp2
          go_ret
          exact ⟨rfl, hB9⟩

set_option maxRecDepth 100000 in
theorem law_walk (a : Option Addr) (n c : Nat) (w : World) (h : Draw.Bytes w.heap.size w a n) :
    Calls Try.prog 3 #[.slice a n c] w fun e w' => e = .returned (.bool true) ∧ Below w.heap.size w w' := by
  by_cases k : n ≤ 1048576
  · exact walk_small a n c w h k
  · have k' : (1048576 : Int) < n := by omega
    go_enter Try.func3, Try.ntmps3
    go_wp2
    go_ret
    exact ⟨rfl, Below.refl _ _⟩
end Go.Proofs.Ytggfpjcfjcoaiaa.FnPathsW
