/-
  The draws of chapter 6's laws: a list of digests; a list and a place in it; the five arguments of a path's check.
  Conditions: the input's bytes lie in memory that was there.
-/
import Derived.Test.YtggfpjcfjcoaiaaDrawRes
import Derived.Test.YtggfpjcfjcoaiaaDigest
import Derived.Test.YtggfpjcfjcoaiaaPathS
import Derived.Deep.DeepCutAuto
import Derived.Deep.CutBlock
namespace Go.Proofs.Ytggfpjcfjcoaiaa.Draw
open Go Go.RowKit Go.Proofs.Ytggfpjcfjcoaiaa.Mem Go.Proofs.Ytggfpjcfjcoaiaa.Adr Go.Proofs.Ytggfpjcfjcoaiaa.Res
set_option linter.unusedVariables false

/-- Numbers that a digest may be. -/
def Dgs (zs : List Int) : Prop := ∀ z ∈ zs, 0 ≤ z ∧ z < 2147483647
theorem Dgs.nil : Dgs [] := fun _ h => by cases h
theorem Dgs.wf {zs : List Int} (h : Dgs zs) : ∀ z ∈ zs, (Lit.int .i64 z).wf = true := fun z hz => WalkArith.wf_i64 (by have := h z hz; omega)
theorem Dgs.snoc {zs : List Int} {q : Int} (h : Dgs zs) (h0 : 0 ≤ q) (h1 : q < 2147483647) : Dgs (zs ++ [q]) := by
  intro z hz
  rcases List.mem_append.1 hz with hz | hz
  · exact h z hz
  · simp at hz; omega
theorem Dgs.at {zs : List Int} (h : Dgs zs) (j : Nat) : 0 ≤ zs.getD j 0 ∧ zs.getD j 0 < 2147483647 := by
  rw [List.getD_eq_getElem?_getD]
  cases e : zs[j]? with
  | none => exact ⟨by simp, by simp⟩
  | some z => exact h z (List.mem_of_getElem? e)
theorem root_range {zs : List Int} (h : Dgs zs) : 0 ≤ Tre.root zs ∧ Tre.root zs < 2147483647 := by
  by_cases h1 : zs.length ≤ 1
  · rw [Tre.root_small h1]; exact h.at 0
  · rw [Tre.root_big h1]; exact Hsh.hash_range _
theorem wf_i (z : Int) (h : I64 z) : (Lit.int .i64 z).wf = true := WalkArith.wf_i64 (by unfold I64 at h; omega)
theorem row_good {base n : Nat} {w : World} {a : Option Addr} {c : Nat} {zs : List Int} (h : OwnI .i64 3 base w (.slice a n c) n zs) (hg : Good zs) : Row .i64 base w.heap.size w a n zs := by
  obtain ⟨a', c', hv, _, _, ho⟩ := h.own hg.wf
  injection hv with h1 _ _
  subst h1
  exact ho.row

/-- A drawn list. -/
def IsList (T B p : Nat) (w : World) (e : Ending) (w' : World) : Prop :=
  ∃ (a : Option Addr) (n c : Nat) (zs : List Int), e = .returned (.slice a n c) ∧ OwnI .i64 3 w.heap.size w' (.slice a n c) n zs ∧ n ≤ 8 ∧ Dgs zs ∧ Cur T B p w' ∧ Only p w w'

set_option maxHeartbeats 1000000 in
set_option maxRecDepth 100000 in
theorem list6 (B p : Nat) (w : World) (hc : Cur 63 B p w) :
    Calls Try.prog 28 #[.pointer (some ⟨p, 0, none⟩)] w (IsList 63 B p w) := by
  obtain ⟨i0, hi0, hz0, hz1, hz2⟩ := info_parts Nts.info
  have hs := OwnI.made .i64 3 (base := w.heap.size) w (Nat.le_refl _)
  have hc0 := hc.below ((Below.refl w.heap.size w).alloc (Nat.le_refl _) (.cells #[] 3))
  have ho0 := (Only.refl p w).alloc (.cells #[] 3)
  have hpl := hc.lt
  go_enter Try.func28, Try.ntmps28
  go_wp2_with fail
  go_at_call 29
  refine (below_any B p _ _ hc0 (by omega) (by omega)).mono ?_
  rintro e w1 ⟨⟨x, hx, rfl⟩, hc1, ho1⟩
  have hx9 : x < 9 := hx
  have hs1 := Only.own hs ho1 hpl
  have hO1 := ho0.trans ho1
  clear hs hc0 ho0 ho1 hx hc
  go_wp2_with fail
  go_loopw [3, 4] (fun v i wr => ∃ (j : Nat) (zs : List Int), j ≤ x ∧ i = .int .i64 ((x - j : Nat) : Int) ∧ OwnI .i64 3 w.heap.size wr v j zs ∧ Hid (Dgs zs) ∧ Cur 63 B p wr ∧ Only p w wr) (fun _ i _ => (intOf i).toNat)
  case atStart => exact ⟨0, [], Nat.zero_le _, rfl, hs1, Dgs.nil, hc1, hO1⟩
  case round =>
    obtain ⟨j, zs, hj, rfl, ho, hwf, hcr, hor⟩ := hrel
    clear hs1 hc1 hO1
    have hsz := hor.size
    by_cases hlt : j < x
    · have hd : decide (((x - j : Nat) : Int) > 0) = true := by simp; omega
      have hd' : decide (0 < ((x - j : Nat) : Int)) = true := by simp; omega
      go_wp2_with fail
      go_at_call 47
      refine (draw5 B p _ hcr).mono ?_
      rintro e w2 ⟨k, h, q, r, a, n, c, ys, hk, hh, hq, hr, rfl, hv, hn, hg, hc2, ho2⟩
      have hs2 := ho2.size
      have hw2 := Only.own ho ho2 hpl
      have hD := digest_spec _ _ k h q r w2 a n c ys (row_good hv hg) (by omega) (wf_i _ hk) (wf_i _ hh) (wf_i _ hq) (wf_i _ hr)
      have hyr := dig_range k h q r n ys
      obtain ⟨y, hy⟩ : ∃ y, Hid (dig k h q r n ys = y) := ⟨_, rfl⟩
      rw [hy.out] at hD hyr
      obtain ⟨y0, y1⟩ := hyr
      clear hv hg hk hh hq hr
      go_wp2_with fail
      go_at_call 16
      refine hD.mono ?_
      rintro e w3 ⟨rfl, hb3⟩
      have hs3 := hb3.size
      have hw3 := (hw2.below hb3).alloc (.cells #[.int .i64 y] 3)
      have hc3 := hc2.below hb3
      have ho3 := (hor.trans ho2).under hb3 (by omega)
      clear hD hw2 hc2 ho2 hb3
      go_wp2_with (at_builtin; refine wpList_append_one rfl _ _ 24 rfl w.heap.size 3 i0 _ 8 Try.underlying24 hi0 hz0 hz1 hz2 rfl _ j zs rfl hw3 w3.heap.size 1 y rfl ?c2 ?c3 ?c4 ?c5 ?_; (case c2 => rw [World.cell?_alloc_at _ _ _ _ rfl]; rfl); (case c3 => unfold maxLen; omega); (case c4 => omega); (case c5 => simp; omega); intro v' w' ho4 hb')
      go_roundw
      case rel =>
        refine ⟨j + 1, _, by omega, by go_num, ho4, ?_, ?_, ?_⟩
        · exact hwf.out.snoc y0 y1
        · exact (hc3.below ((Below.refl _ _).alloc (Nat.le_refl _) _)).under hb' hpl
        · exact (ho3.alloc _).under hb' (Nat.le_refl _)
      case measure => simp [intOf]; omega
    · have HE := Lib.hid (show x - j = 0 by omega)
      have hd : decide (((x - j : Nat) : Int) > 0) = false := by simp; omega
      have hd' : decide (0 < ((x - j : Nat) : Int)) = false := by simp; omega
      go_wp2
      go_ret
      obtain ⟨a, c, rfl⟩ := ownI_shape ho
      exact ⟨a, j, c, zs, rfl, ho, by omega, hwf.out, hcr, hor⟩

/-- A list and a place that the call has drawn. -/
def DrawnPath (w : World) (e : Ending) (w' : World) : Prop :=
  ∃ (a : Option Addr) (n c : Nat) (zs : List Int) (i : Int), e = .returned (.tuple #[.slice a n c, .int .i64 i]) ∧ Row .i64 w.heap.size w'.heap.size w' a n zs ∧ n ≤ c ∧ c ≤ maxLen ∧ n ≤ 8 ∧ Dgs zs ∧ -1 ≤ i ∧ i ≤ n ∧ Below w.heap.size w w'

set_option maxHeartbeats 1000000 in
set_option maxRecDepth 100000 in
theorem draw_path (B : Nat) (a : Option Addr) (n c : Nat) (w : World) (hb : Bytes B w a n) (hB : B ≤ w.heap.size) :
    Calls Try.prog 9 #[.slice a n c] w (DrawnPath w) := by
  go_enter Try.func9, Try.ntmps9
  go_wp2_with fail
  go_at_call 27
  refine (new_any B a n c _ hb hB).mono ?_
  rintro e w1 ⟨rfl, hc1, hb1⟩
  have hl1 := hc1.lt
  go_wp2_with fail
  go_at_call 28
  refine (list6 B _ _ hc1).mono ?_
  rintro e w2 ⟨a1, n1, c1, zs, rfl, hv, hn, hg, hc2, ho2⟩
  have hs2 := ho2.size
  have hB2 := hb1.trans (ho2.below (B := w.heap.size) (Nat.le_refl _) hb1.size)
  clear hc1 hb1
  go_wp2_with fail
  go_at_call 29
  refine (below_any B _ _ _ hc2 (by omega) (by omega)).mono ?_
  rintro e w3 ⟨⟨x, hx, rfl⟩, hc3, ho3⟩
  have hx2 : x < n1 + 2 := by omega
  have hv3 := Only.own hv ho3 (by omega)
  have hB3 := hB2.trans (ho3.below (B := w.heap.size) (Nat.le_refl _) hB2.size)
  obtain ⟨a', c', hv', h1, h2, h3⟩ := hv3.own hg.wf
  injection hv' with q1 _ q2
  subst q1 q2
  clear hc2 hv hB2 hc3 hx hv3
  go_wp2
  go_ret2
  exact ⟨_, _, _, _, _, rfl, h3.row.more (by omega) (Nat.le_refl _), h1, h2, hn, hg, by omega, by omega, hB3⟩

/-- The arguments of a path's check that the call has drawn. -/
def DrawnCheck (w : World) (e : Ending) (w' : World) : Prop :=
  ∃ (r n i d : Int) (a : Option Addr) (m c : Nat) (ps : List Int), e = .returned (.tuple #[.int .i64 r, .int .i64 n, .int .i64 i, .int .i64 d, .slice a m c]) ∧ (Lit.int .i64 d).wf = true ∧ Row .i64 w.heap.size w'.heap.size w' a m ps ∧ m ≤ 9 ∧ Below w.heap.size w w'

set_option maxHeartbeats 4000000 in
set_option maxRecDepth 100000 in
theorem draw_check (B : Nat) (a : Option Addr) (n c : Nat) (w : World) (hb : Bytes B w a n) (hB : B ≤ w.heap.size) :
    Calls Try.prog 14 #[.slice a n c] w (DrawnCheck w) := by
  obtain ⟨i0, hi0, hz0, hz1, hz2⟩ := info_parts Nts.info
  go_enter Try.func14, Try.ntmps14
  go_wp2_with fail
  go_at_call 27
  refine (new_any B a n c _ hb hB).mono ?_
  rintro e w1 ⟨rfl, hc1, hb1⟩
  have hl1 := hc1.lt
  go_wp2_with fail
  go_at_call 28
  refine (list6 B _ _ hc1).mono ?_
  rintro e w2 ⟨a1, n1, c1, zs, rfl, hv, hn, hg, hc2, ho2⟩
  have hs2 := ho2.size
  have hB2 := hb1.trans (ho2.below (B := w.heap.size) (Nat.le_refl _) hb1.size)
  clear hc1 hb1 hb
  go_wp2_with fail
  go_at_call 29
  refine (below_any B _ _ _ hc2 (by omega) (by omega)).mono ?_
  rintro e w3 ⟨⟨x, hx, rfl⟩, hc3, ho3⟩
  have hx1 : x ≤ n1 := by omega
  have hs3 := ho3.size
  have hv3 := Only.own hv ho3 (by omega)
  have hB3 := hB2.trans (ho3.below (B := w.heap.size) (Nat.le_refl _) hB2.size)
  have HG := Lib.hid hg
  have hl3 := hv3.len
  obtain ⟨a', c', hv', h1, h2, h3⟩ := hv3.own hg.wf
  injection hv' with q1 _ q2
  subst q1 q2
  have hr3 := h3.row
  have hP := Tre.path_spec _ _ n1 c1 x w3 _ zs hr3 h1 h2 (by omega) (WalkArith.wf_i64 (by omega))
  have hpl := Tre.pth_len zs x
  have hpw := Tre.pth_wf hg.wf x
  obtain ⟨ps, hps⟩ : ∃ ps, Hid (Tre.pth zs x = ps) := ⟨_, rfl⟩
  rw [hps.out] at hP hpl hpw
  have HPW := Lib.hid hpw
  have hpl8 : ps.length ≤ 8 := by omega
  clear hc2 hv hB2 hx hv3 hg hpl hpw h3 hl3
  go_wp2_with fail
  go_at_call 23
  refine hP.mono ?_
  rintro e w4 ⟨v4, rfl, ho4, hb4⟩
  have hs4 := hb4.size
  have hB4 := hB3.trans (hb4.mono hB3.size)
  have hr4 := hr3.below hb4
  have hc4 := hc3.below hb4
  clear hP hr3 hc3 hb4 hB3 ho3 ho2
  go_upto_if 29 with fail
  go_cut [11] (fun s11 wx => ∃ d : Int, s11 = .int .i64 d ∧ 0 ≤ d ∧ d < 2147483647 ∧ wx = w4)
  case first =>
    by_cases hxn : x < n1
    · have hxd : decide ((x : Int) < (n1 : Int)) = true := by simp; omega
      obtain ⟨b, off, rfl, _, _, hcell⟩ := hr4.cell hxn
      have hdr := HG.out.at x
      obtain ⟨d, hd⟩ : ∃ d, Hid (zs.getD x 0 = d) := ⟨_, rfl⟩
      rw [hd.out] at hcell hdr
      clear hr4 ho4 hc4 hB4
      go_wp2_with fail
      go_meet
      case rel => exact ⟨d, rfl, hdr.1, hdr.2, rfl⟩
    · have hxd : decide ((x : Int) < (n1 : Int)) = false := by simp; omega
      clear hr4 ho4 hc4 hB4
      go_wp2_with fail
      go_meet
      case rel => exact ⟨5, rfl, by omega, by omega, rfl⟩
  case rest =>
  obtain ⟨d, rfl, d0, d1, rfl⟩ := hcut
  have hR := Tre.root_spec _ _ n1 c1 _ _ zs hr4 h1 h2 (by omega)
  have hrr := root_range HG.out
  obtain ⟨r, hr⟩ : ∃ r, Hid (Tre.root zs = r) := ⟨_, rfl⟩
  rw [hr.out] at hR hrr
  obtain ⟨r0, r1⟩ := hrr
  go_wp2_with fail
  go_at_call 20
  refine hR.mono ?_
  rintro e w5 ⟨rfl, hb5⟩
  have hs5 := hb5.size
  have hB5 := hB4.trans (hb5.mono hB4.size)
  have ho5 := ho4.below hb5
  have hc5 := hc4.below hb5
  clear hR hr4 ho4 hc4 hb5 hB4
  go_wp2_with fail
  go_at_call 29
  refine (below_any B _ _ _ hc5 (by omega) (by omega)).mono ?_
  rintro e w6 ⟨⟨y, hy, rfl⟩, hc6, ho6⟩
  have hs6 := ho6.size
  have hw6 := Only.own ho5 ho6 (by omega)
  have hB6 := hB5.trans (ho6.below (B := w.heap.size) (Nat.le_refl _) hB5.size)
  clear hc5 ho5 hB5 ho6 hy
  go_upto_block 0 with fail
  go_cut [9, 10, 11, 12, 13] (fun s9 s10 s11 s12 s13 wx => ∃ (i d r nn : Int) (m : Nat) (qs : List Int), s9 = .int .i64 i ∧ s11 = .int .i64 d ∧ s12 = .int .i64 r ∧ s13 = .int .i64 nn ∧ OwnI .i64 3 w3.heap.size wx s10 m qs ∧ m ≤ 9 ∧ 0 ≤ d ∧ d ≤ 2147483647 ∧ Hid (∀ z ∈ qs, (Lit.int .i64 z).wf = true) ∧ Below w.heap.size w wx)
  case first =>
    by_cases y0 : y = 0
    · subst y0
      go_wp2_with fail
      go_meet
      case rel => exact ⟨_, _, _, _, _, _, rfl, rfl, rfl, rfl, hw6, by omega, by omega, by omega, HPW, hB6⟩
    have e0 : ((y : Int) == 0) = false := by simp; omega
    by_cases y1 : y = 1
    · subst y1
      have hw7 := hw6.alloc (.cells #[.int .i64 1] 3)
      go_wp2_with (at_builtin; refine wpList_append_one rfl _ _ 24 rfl w3.heap.size 3 i0 _ 8 Try.underlying24 hi0 hz0 hz1 hz2 rfl _ ps.length ps rfl hw7 w6.heap.size 1 1 rfl ?c2 ?c3 ?c4 ?c5 ?_; (case c2 => rw [World.cell?_alloc_at _ _ _ _ rfl]; rfl); (case c3 => unfold maxLen; omega); (case c4 => omega); (case c5 => simp; omega); intro v' w' ho7 hb7)
      go_meet
      case rel =>
        refine ⟨_, _, _, _, _, _, rfl, rfl, rfl, rfl, ho7, by omega, by omega, by omega, ?_, (hB6.alloc hB6.size _).trans (hb7.mono (by omega))⟩
        intro z hz
        rcases List.mem_append.1 hz with hz | hz
        · exact HPW.out z hz
        · simp at hz; subst hz; exact WalkArith.wf_i64 (by omega)
    have e1 : ((y : Int) == 1) = false := by simp; omega
    by_cases y2 : y = 2
    · subst y2
      go_wp2_with fail
      go_meet
      case rel => exact ⟨_, _, _, _, _, _, rfl, rfl, rfl, rfl, hw6, by omega, by omega, by omega, HPW, hB6⟩
    have e2 : ((y : Int) == 2) = false := by simp; omega
    by_cases y3 : y = 3
    · subst y3
      go_wp2_with (go_at_call 35; refine (int_new B _ [0, (n1 : Int) + 1, 1001, -1, 9223372036854775807] _ _ _ rfl _ _ rfl hc6 (by simp) (by simp)).mono ?_; rintro e w7 ⟨⟨z, hz, rfl⟩, hc7, ho7⟩; have hw7 := Only.own hw6 ho7 (by omega); have hB7 := hB6.trans (ho7.below (B := w.heap.size) (Nat.le_refl _) hB6.size); clear hz)
      go_meet
      case rel => exact ⟨_, _, _, _, _, _, rfl, rfl, rfl, rfl, hw7, by omega, by omega, by omega, HPW, hB7⟩
    have e3 : ((y : Int) == 3) = false := by simp; omega
    by_cases y4 : y = 4
    · subst y4
      go_wp2_with (go_at_call 36; refine (raw4 B _ _ hc6).mono ?_; rintro e w7 ⟨⟨z, hz0, hz1, rfl⟩, hc7, ho7⟩; have hw7 := Only.own hw6 ho7 (by omega); have hB7 := hB6.trans (ho7.below (B := w.heap.size) (Nat.le_refl _) hB6.size))
      go_meet
      case rel => exact ⟨_, _, _, _, _, _, rfl, rfl, rfl, rfl, hw7, by omega, by omega, by omega, HPW, hB7⟩
    have e4 : ((y : Int) == 4) = false := by simp; omega
    go_wp2_with fail
    go_meet
    case rel => exact ⟨_, _, _, _, _, _, rfl, rfl, rfl, rfl, hw6, by omega, by omega, by omega, HPW, hB6⟩
  case rest =>
  obtain ⟨i, d', r', nn, m, qs, rfl, rfl, rfl, rfl, hoq, hm, dd0, dd1, hwq, hBx⟩ := hcut
  obtain ⟨a', c', rfl, g1, g2, g3⟩ := hoq.own hwq.out
  have hss := hBx.size
  clear hoq hw6 hB6 hc6
  go_wp2
  refine bodyPost_ret (v := .tuple #[.int .i64 r', .int .i64 nn, .int .i64 i, .int .i64 d', .slice a' m c']) (by simp [results, Try.results14, go_sem]) rfl ?_
  exact ⟨_, _, _, _, _, _, _, _, rfl, WalkArith.wf_i64 (by omega), g3.row.more (by omega) (Nat.le_refl _), hm, hBx⟩
end Go.Proofs.Ytggfpjcfjcoaiaa.Draw
