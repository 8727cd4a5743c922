/-
  The integers' law returns true, whatever bytes it is given.
  Conditions: the library's tables and its two errors hold what their initialisers lay.
-/
import Derived.Test.YtpplinfjpbfaoaaDoorFnIntegersParts
namespace Go.Proofs.YtpplinfjpbfaoaaDoor.Ints
open Go Go.RowKit Go.Proofs.YtpplinfjpbfaoaaDoor.Fmt Go.Proofs.YtpplinfjpbfaoaaDoor.Draw

set_option maxHeartbeats 4000000 in
set_option maxRecDepth 100000 in
theorem law_walk (a : Option Addr) (n c : Nat) (w : World) (hb : Bytes w.heap.size w a n) (ht : Tab w) (hE : Errs w) :
    Calls Tryd.prog 3 #[.slice a n c] w fun e w' => e = .returned (.bool true) ∧ Below w.heap.size w w' := by
  have hn := hb.1
  by_cases hbig : 1048576 < n
  · go_enter Tryd.func3, Tryd.ntmps3
    go_wp2
    go_ret
    exact ⟨rfl, Below.refl _ _⟩
  go_enter Tryd.func3, Tryd.ntmps3
  go_wp2_with (go_at_call 5; go_in)
  go_at_call 6
  refine (draw_parse _ a n c _ hb (Nat.le_refl _)).mono ?_
  rintro e w1 ⟨⟨s, hs, rfl⟩, hb1⟩
  have ht1 := ht.on hb1
  have hE1 := hE.on hb1
  have hy1 := hb.below hb1
  go_wp2_with fail
  go_at_call 7
  cases hp : pnum s.data.toList with
  | none =>
    refine (parse_none s _ (by omega) ht1 hE1 hp).mono ?_
    rintro e w2 ⟨rfl, hb2⟩
    have hb12 := hb1.trans (hb2.mono hb1.size)
    have ht2 := ht1.on hb2
    have hE2 := hE1.on hb2
    have hy2 := hy1.below hb2
    clear hp

    go_wp2_with fail
    go_at_call 8
    refine (draw_format _ a n c _ hy2 hb12.size).mono ?_
    rintro e w3 ⟨⟨m, m0, m1, rfl⟩, hb3⟩
    have hb13 := hb12.trans (hb3.mono hb12.size)
    have ht3 := ht2.on hb3
    have hE3 := hE2.on hb3
    have hy3 := hy2.below hb3
    go_wp2_with fail
    go_at_call 9
    refine (fmt_any m _ m0 m1 ht3).mono ?_
    rintro e w4 ⟨rfl, hb4⟩
    have hb14 := hb13.trans (hb4.mono hb13.size)
    have ht4 := ht3.on hb4
    have hE4 := hE3.on hb4
    have hy4 := hy3.below hb4
    go_wp2_with fail
    go_at_call 7
    by_cases hm : 0 ≤ m ∧ m ≤ 1000000000000
    · obtain ⟨n0, n1⟩ := hm
      refine (parse_in m _ n0 n1 ht4 hE4).mono ?_
      rintro e w5 ⟨rfl, hb5⟩
      have hb15 := hb14.trans (hb5.mono hb14.size)
      have ht5 := ht4.on hb5
      have hy5 := hy4.below hb5
      go_wp2_with fail
      go_at_call 10
      refine (draw_ceil _ a n c _ hy5 (Nat.le_trans hb15.size (Nat.le_refl _))).mono ?_
      rintro e w6 ⟨⟨x, y, hx0, hx1, hyy0, hyy1, rfl⟩, hb6⟩
      have hb16 := hb15.trans (hb6.mono hb15.size)
      have ht6 := ht5.on hb6
      by_cases hyb : 1 ≤ y ∧ y ≤ 1000000000000
      · obtain ⟨y0, y1⟩ := hyb
        by_cases hxb : 0 ≤ x ∧ x ≤ 1000000000000
        · obtain ⟨x0, x1⟩ := hxb
          go_wp2_with fail
          go_at_call 11
          refine (ceil_in x y _ x0 x1 y0 y1).mono ?_
          rintro e w7 ⟨⟨q, rfl, q0, q1⟩, rfl⟩
          go_wp2_with fail
          go_at_call 12
          refine (mod_in x y _ y0 y1).mono ?_
          rintro e w7 ⟨⟨r, rfl, r0, r1, hr⟩, rfl⟩
          have hm := rem_zero x y r y0 y1 hr
          rw [Int.tmod_eq_emod_of_nonneg x0] at hm
          clear hr
          go_wp2_with fail
          all_goals (go_ret; exact ⟨rfl, hb16⟩)
        · go_wp2_with fail
          go_at_call 11
          refine (ceil_out x y _ (by omega)).mono ?_
          rintro e w7 ⟨rfl, rfl⟩
          go_wp2_with fail
          go_at_call 12
          refine (mod_in x y _ y0 y1).mono ?_
          rintro e w7 ⟨⟨r, rfl, r0, r1, hr⟩, rfl⟩
          have hm := rem_zero x y r y0 y1 hr
          clear hr
          by_cases hx : 0 ≤ x
          · have hx2 : 1000000000000 < x := by omega
            rw [Int.tmod_eq_emod_of_nonneg hx] at hm
            go_wp2_with fail
            all_goals (go_ret; exact ⟨rfl, hb16⟩)
          · have hx2 : x < 0 := by omega
            go_wp2_with fail
            all_goals (go_ret; exact ⟨rfl, hb16⟩)
      · go_wp2_with fail
        go_at_call 11
        refine (ceil_out x y _ (by omega)).mono ?_
        rintro e w7 ⟨rfl, rfl⟩
        go_wp2_with fail
        go_at_call 12
        refine (mod_out x y _ (by omega)).mono ?_
        rintro e w7 ⟨rfl, rfl⟩
        by_cases hy : 1 ≤ y
        · have hy2 : 1000000000000 < y := by omega
          go_wp2_with fail
          all_goals (go_ret; exact ⟨rfl, hb16⟩)
        · have hy2 : y < 1 := by omega
          go_wp2_with fail
          all_goals (go_ret; exact ⟨rfl, hb16⟩)
    · refine (parse_out m _ (by omega) m0 m1 ht4 hE4).mono ?_
      rintro e w5 ⟨rfl, hb5⟩
      have hb15 := hb14.trans (hb5.mono hb14.size)
      have ht5 := ht4.on hb5
      have hy5 := hy4.below hb5
      go_wp2_with fail
      go_at_call 10
      refine (draw_ceil _ a n c _ hy5 (Nat.le_trans hb15.size (Nat.le_refl _))).mono ?_
      rintro e w6 ⟨⟨x, y, hx0, hx1, hyy0, hyy1, rfl⟩, hb6⟩
      have hb16 := hb15.trans (hb6.mono hb15.size)
      have ht6 := ht5.on hb6
      by_cases hyb : 1 ≤ y ∧ y ≤ 1000000000000
      · obtain ⟨y0, y1⟩ := hyb
        by_cases hxb : 0 ≤ x ∧ x ≤ 1000000000000
        · obtain ⟨x0, x1⟩ := hxb
          go_wp2_with fail
          go_at_call 11
          refine (ceil_in x y _ x0 x1 y0 y1).mono ?_
          rintro e w7 ⟨⟨q, rfl, q0, q1⟩, rfl⟩
          go_wp2_with fail
          go_at_call 12
          refine (mod_in x y _ y0 y1).mono ?_
          rintro e w7 ⟨⟨r, rfl, r0, r1, hr⟩, rfl⟩
          have hm := rem_zero x y r y0 y1 hr
          rw [Int.tmod_eq_emod_of_nonneg x0] at hm
          clear hr
          go_wp2_with fail
          all_goals (go_ret; exact ⟨rfl, hb16⟩)
        · go_wp2_with fail
          go_at_call 11
          refine (ceil_out x y _ (by omega)).mono ?_
          rintro e w7 ⟨rfl, rfl⟩
          go_wp2_with fail
          go_at_call 12
          refine (mod_in x y _ y0 y1).mono ?_
          rintro e w7 ⟨⟨r, rfl, r0, r1, hr⟩, rfl⟩
          have hm := rem_zero x y r y0 y1 hr
          clear hr
          by_cases hx : 0 ≤ x
          · have hx2 : 1000000000000 < x := by omega
            rw [Int.tmod_eq_emod_of_nonneg hx] at hm
            go_wp2_with fail
            all_goals (go_ret; exact ⟨rfl, hb16⟩)
          · have hx2 : x < 0 := by omega
            go_wp2_with fail
            all_goals (go_ret; exact ⟨rfl, hb16⟩)
      · go_wp2_with fail
        go_at_call 11
        refine (ceil_out x y _ (by omega)).mono ?_
        rintro e w7 ⟨rfl, rfl⟩
        go_wp2_with fail
        go_at_call 12
        refine (mod_out x y _ (by omega)).mono ?_
        rintro e w7 ⟨rfl, rfl⟩
        by_cases hy : 1 ≤ y
        · have hy2 : 1000000000000 < y := by omega
          go_wp2_with fail
          all_goals (go_ret; exact ⟨rfl, hb16⟩)
        · have hy2 : y < 1 := by omega
          go_wp2_with fail
          all_goals (go_ret; exact ⟨rfl, hb16⟩)
  | some k =>
    obtain ⟨_, _, hk, hks⟩ := pnum_some hp
    have hc : (Lib.itoa (k : Int) == s.toList) = true := by rw [Lib.toList_data, hks]; simp
    refine (parse_yes s _ k (by omega) ht1 hE1 hp).mono ?_
    rintro e w2 ⟨rfl, hb2⟩
    have hb12 := hb1.trans (hb2.mono hb1.size)
    have ht2 := ht1.on hb2
    have hE2 := hE1.on hb2
    have hy2 := hy1.below hb2
    clear hp hks

    go_wp2_with fail
    go_at_call 8
    refine (draw_format _ a n c _ hy2 hb12.size).mono ?_
    rintro e w3 ⟨⟨m, m0, m1, rfl⟩, hb3⟩
    have hb13 := hb12.trans (hb3.mono hb12.size)
    have ht3 := ht2.on hb3
    have hE3 := hE2.on hb3
    have hy3 := hy2.below hb3
    go_wp2_with fail
    go_at_call 9
    refine (fmt_any m _ m0 m1 ht3).mono ?_
    rintro e w4 ⟨rfl, hb4⟩
    have hb14 := hb13.trans (hb4.mono hb13.size)
    have ht4 := ht3.on hb4
    have hE4 := hE3.on hb4
    have hy4 := hy3.below hb4
    go_wp2_with fail
    go_at_call 7
    by_cases hm : 0 ≤ m ∧ m ≤ 1000000000000
    · obtain ⟨n0, n1⟩ := hm
      refine (parse_in m _ n0 n1 ht4 hE4).mono ?_
      rintro e w5 ⟨rfl, hb5⟩
      have hb15 := hb14.trans (hb5.mono hb14.size)
      have ht5 := ht4.on hb5
      have hy5 := hy4.below hb5
      go_wp2_with fail
      go_at_call 10
      refine (draw_ceil _ a n c _ hy5 (Nat.le_trans hb15.size (Nat.le_refl _))).mono ?_
      rintro e w6 ⟨⟨x, y, hx0, hx1, hyy0, hyy1, rfl⟩, hb6⟩
      have hb16 := hb15.trans (hb6.mono hb15.size)
      have ht6 := ht5.on hb6
      by_cases hyb : 1 ≤ y ∧ y ≤ 1000000000000
      · obtain ⟨y0, y1⟩ := hyb
        by_cases hxb : 0 ≤ x ∧ x ≤ 1000000000000
        · obtain ⟨x0, x1⟩ := hxb
          go_wp2_with fail
          go_at_call 11
          refine (ceil_in x y _ x0 x1 y0 y1).mono ?_
          rintro e w7 ⟨⟨q, rfl, q0, q1⟩, rfl⟩
          go_wp2_with fail
          go_at_call 12
          refine (mod_in x y _ y0 y1).mono ?_
          rintro e w7 ⟨⟨r, rfl, r0, r1, hr⟩, rfl⟩
          have hm := rem_zero x y r y0 y1 hr
          rw [Int.tmod_eq_emod_of_nonneg x0] at hm
          clear hr
          go_wp2_with (go_at_call 9; refine (fmt_any k _ (by omega) (by omega) ht6).mono ?_; rintro e w7 ⟨rfl, hb7⟩)
          all_goals (go_ret; exact ⟨rfl, hb16.trans (hb7.mono hb16.size)⟩)
        · go_wp2_with fail
          go_at_call 11
          refine (ceil_out x y _ (by omega)).mono ?_
          rintro e w7 ⟨rfl, rfl⟩
          go_wp2_with fail
          go_at_call 12
          refine (mod_in x y _ y0 y1).mono ?_
          rintro e w7 ⟨⟨r, rfl, r0, r1, hr⟩, rfl⟩
          have hm := rem_zero x y r y0 y1 hr
          clear hr
          by_cases hx : 0 ≤ x
          · have hx2 : 1000000000000 < x := by omega
            rw [Int.tmod_eq_emod_of_nonneg hx] at hm
            go_wp2_with (go_at_call 9; refine (fmt_any k _ (by omega) (by omega) ht6).mono ?_; rintro e w7 ⟨rfl, hb7⟩)
            all_goals (go_ret; exact ⟨rfl, hb16.trans (hb7.mono hb16.size)⟩)
          · have hx2 : x < 0 := by omega
            go_wp2_with (go_at_call 9; refine (fmt_any k _ (by omega) (by omega) ht6).mono ?_; rintro e w7 ⟨rfl, hb7⟩)
            all_goals (go_ret; exact ⟨rfl, hb16.trans (hb7.mono hb16.size)⟩)
      · go_wp2_with fail
        go_at_call 11
        refine (ceil_out x y _ (by omega)).mono ?_
        rintro e w7 ⟨rfl, rfl⟩
        go_wp2_with fail
        go_at_call 12
        refine (mod_out x y _ (by omega)).mono ?_
        rintro e w7 ⟨rfl, rfl⟩
        by_cases hy : 1 ≤ y
        · have hy2 : 1000000000000 < y := by omega
          go_wp2_with (go_at_call 9; refine (fmt_any k _ (by omega) (by omega) ht6).mono ?_; rintro e w7 ⟨rfl, hb7⟩)
          all_goals (go_ret; exact ⟨rfl, hb16.trans (hb7.mono hb16.size)⟩)
        · have hy2 : y < 1 := by omega
          go_wp2_with (go_at_call 9; refine (fmt_any k _ (by omega) (by omega) ht6).mono ?_; rintro e w7 ⟨rfl, hb7⟩)
          all_goals (go_ret; exact ⟨rfl, hb16.trans (hb7.mono hb16.size)⟩)
    · refine (parse_out m _ (by omega) m0 m1 ht4 hE4).mono ?_
      rintro e w5 ⟨rfl, hb5⟩
      have hb15 := hb14.trans (hb5.mono hb14.size)
      have ht5 := ht4.on hb5
      have hy5 := hy4.below hb5
      go_wp2_with fail
      go_at_call 10
      refine (draw_ceil _ a n c _ hy5 (Nat.le_trans hb15.size (Nat.le_refl _))).mono ?_
      rintro e w6 ⟨⟨x, y, hx0, hx1, hyy0, hyy1, rfl⟩, hb6⟩
      have hb16 := hb15.trans (hb6.mono hb15.size)
      have ht6 := ht5.on hb6
      by_cases hyb : 1 ≤ y ∧ y ≤ 1000000000000
      · obtain ⟨y0, y1⟩ := hyb
        by_cases hxb : 0 ≤ x ∧ x ≤ 1000000000000
        · obtain ⟨x0, x1⟩ := hxb
          go_wp2_with fail
          go_at_call 11
          refine (ceil_in x y _ x0 x1 y0 y1).mono ?_
          rintro e w7 ⟨⟨q, rfl, q0, q1⟩, rfl⟩
          go_wp2_with fail
          go_at_call 12
          refine (mod_in x y _ y0 y1).mono ?_
          rintro e w7 ⟨⟨r, rfl, r0, r1, hr⟩, rfl⟩
          have hm := rem_zero x y r y0 y1 hr
          rw [Int.tmod_eq_emod_of_nonneg x0] at hm
          clear hr
          go_wp2_with (go_at_call 9; refine (fmt_any k _ (by omega) (by omega) ht6).mono ?_; rintro e w7 ⟨rfl, hb7⟩)
          all_goals (go_ret; exact ⟨rfl, hb16.trans (hb7.mono hb16.size)⟩)
        · go_wp2_with fail
          go_at_call 11
          refine (ceil_out x y _ (by omega)).mono ?_
          rintro e w7 ⟨rfl, rfl⟩
          go_wp2_with fail
          go_at_call 12
          refine (mod_in x y _ y0 y1).mono ?_
          rintro e w7 ⟨⟨r, rfl, r0, r1, hr⟩, rfl⟩
          have hm := rem_zero x y r y0 y1 hr
          clear hr
          by_cases hx : 0 ≤ x
          · have hx2 : 1000000000000 < x := by omega
            rw [Int.tmod_eq_emod_of_nonneg hx] at hm
            go_wp2_with (go_at_call 9; refine (fmt_any k _ (by omega) (by omega) ht6).mono ?_; rintro e w7 ⟨rfl, hb7⟩)
            all_goals (go_ret; exact ⟨rfl, hb16.trans (hb7.mono hb16.size)⟩)
          · have hx2 : x < 0 := by omega
            go_wp2_with (go_at_call 9; refine (fmt_any k _ (by omega) (by omega) ht6).mono ?_; rintro e w7 ⟨rfl, hb7⟩)
            all_goals (go_ret; exact ⟨rfl, hb16.trans (hb7.mono hb16.size)⟩)
      · go_wp2_with fail
        go_at_call 11
        refine (ceil_out x y _ (by omega)).mono ?_
        rintro e w7 ⟨rfl, rfl⟩
        go_wp2_with fail
        go_at_call 12
        refine (mod_out x y _ (by omega)).mono ?_
        rintro e w7 ⟨rfl, rfl⟩
        by_cases hy : 1 ≤ y
        · have hy2 : 1000000000000 < y := by omega
          go_wp2_with (go_at_call 9; refine (fmt_any k _ (by omega) (by omega) ht6).mono ?_; rintro e w7 ⟨rfl, hb7⟩)
          all_goals (go_ret; exact ⟨rfl, hb16.trans (hb7.mono hb16.size)⟩)
        · have hy2 : y < 1 := by omega
          go_wp2_with (go_at_call 9; refine (fmt_any k _ (by omega) (by omega) ht6).mono ?_; rintro e w7 ⟨rfl, hb7⟩)
          all_goals (go_ret; exact ⟨rfl, hb16.trans (hb7.mono hb16.size)⟩)
end Go.Proofs.YtpplinfjpbfaoaaDoor.Ints
