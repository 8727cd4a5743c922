/-
  The draws of lists of parts.
  Conditions: the bytes are in memory.
-/
import Derived.Test.YtedjclnojocjkaaGreatDoorPutS
import Derived.Test.YtedjclnojocjkaaGreatDoorPtsEdit
import Derived.Test.YtedjclnojocjkaaGreatDoorDrawRes
import Derived.Test.YtedjclnojocjkaaGreatDoorDraws
namespace Go.Proofs.YtedjclnojocjkaaGreatDoor.Draw
open Go Go.RowKit Go.Proofs.YtedjclnojocjkaaGreatDoor.Mem Go.Proofs.YtedjclnojocjkaaGreatDoor.Adr Go.Proofs.YtedjclnojocjkaaGreatDoor.Res Go.Proofs.YtedjclnojocjkaaGreatDoor.Parts

theorem wfI {z : Int} (h : I64 z) : (Lit.int .i64 z).wf = true := WalkArith.wf_i64 (by unfold I64 at h; omega)
theorem ownR {base n : Nat} {w : World} {a : Option Addr} {c : Nat} {zs : List Int} (h : OwnI .i64 3 base w (.slice a n c) n zs) (hg : Good zs) : Row .i64 base w.heap.size w a n zs ∧ n ≤ c ∧ c ≤ maxLen := by
  obtain ⟨a', c', hv, h1, h2, ho⟩ := h.own hg.wf
  injection hv with e1 _ e3
  subst e1 e3
  exact ⟨ho.row, h1, h2⟩
theorem wf_wrap (z : Int) : (Lit.int .i64 (IntKind.wrap .i64 z)).wf = true := WalkArith.wf_i64 (by rw [IntKind.wrap_i64]; omega)

/-- A list of parts of the call's own, drawn. -/
def IsPts (B p : Nat) (w : World) (e : Ending) (w' : World) : Prop :=
  ∃ v G l, e = .returned v ∧ PBuf 62 w.heap.size w'.heap.size w' v l.length l G ∧ room l ≤ 30 ∧ Cur 93 B p w' ∧ Only p w w'

set_option maxHeartbeats 2000000 in
set_option maxRecDepth 100000 in
theorem draw7 (B p : Nat) (w : World) (hc : Cur 93 B p w) :
    Calls Tryz.prog 69 #[.pointer (some ⟨p, 0, none⟩)] w (IsPts B p w) := by
  have hp := hc.lt
  have h0 := PBuf.made 62 w.heap.size w (Nat.le_refl _)
  have hA : Below w.heap.size w (w.alloc (.cells #[] 62)) := (Below.refl _ _).alloc (Nat.le_refl _) _
  have hsA : (w.alloc (.cells #[] 62)).heap.size = w.heap.size + 1 := size_alloc _ _
  have hcA := hc.below hA
  have hoA : Only p w (w.alloc (.cells #[] 62)) := Only.of_below hA
  go_enter Tryz.func69, Tryz.ntmps69
  go_wp2_with fail
  go_at_call 34
  refine (below_any B p 7 _ hcA (by omega) (by omega)).mono ?_
  rintro e w1 ⟨⟨y, hy, rfl⟩, hc1, ho1⟩
  have hy' : y ≤ 6 := by simp at hy; omega
  have hs1 := ho1.size
  have h1 := (h0.on ho1 hp).more (hi' := w1.heap.size) (by omega)
  have hoB := hoA.trans ho1
  clear h0 hA hcA hoA ho1 hy hc
  go_wp2
  go_loopw [3, 4] (fun v i wr => ∃ (m : Nat) (l : List Prt) (G : List Body), i = .int .i64 m ∧ m ≤ 6 ∧ room l + 5 * m ≤ 30 ∧ PBuf 62 w.heap.size wr.heap.size wr v l.length l G ∧ Cur 93 B p wr ∧ Only p w wr) (fun _ i _ => (Go.RowKit.intOf i).toNat)
  case atStart => exact ⟨y, [], [], rfl, hy', by simp [room]; omega, h1, hc1, hoB⟩
  case round =>
    obtain ⟨m, l, G, rfl, hm, hrm, hv, hcr, hor⟩ := hrel
    clear h1 hc1 hoB hs1 hsA
    by_cases hm0 : 0 < m
    · have hg : decide ((m : Int) > 0) = true := by simp; omega
      have hg2 : decide ((0 : Int) < m) = true := by simp; omega
      have hsr := hor.size
      obtain ⟨va, vc, rfl⟩ := hv.slice
      go_wp2_with fail
      go_at_call 71
      refine (draw5 B p _ hcr).mono ?_
      rintro e w2 ⟨k, h, q, r, a, n, c, zs, hk, hh, hq, hr, rfl, hv2, hn, hgd, hc2, ho2⟩
      obtain ⟨row2, hzc, hzm⟩ := ownR hv2 hgd
      have hzl := row2.len
      subst hzl
      have hs2 := ho2.size
      have hv3 := (hv.on ho2 hp).more hs2
      obtain ⟨va', vc', e1, hnc, hcm, hpo⟩ := hv3.shape
      injection e1 with e1 _ e2
      subst e1 e2
      have dgr := dig_range k h q r zs.length zs
      have hP := put_spec w.heap.size w2.heap.size wr.heap.size w2.heap.size w2 va l.length vc l ⟨dig k h q r zs.length zs, k, zs, h, q, r, 1⟩ a c hpo.row (Nat.le_refl _) (by omega) row2 (Nat.le_refl _) (by show room l + (1 + zs.length) ≤ _; omega) ⟨WalkArith.wf_i64 (by show -9223372036854775808 ≤ dig k h q r zs.length zs ∧ dig k h q r zs.length zs ≤ 9223372036854775807; omega), wfI hk, wfI hh, wfI hq, wfI hr, show (Lit.int .i64 1).wf = true by decide⟩ rfl rfl hnc
      have hR := putL_room ⟨dig k h q r zs.length zs, k, zs, h, q, r, 1⟩ l
      obtain ⟨R, hRR⟩ : ∃ R, putL ⟨dig k h q r zs.length zs, k, zs, h, q, r, 1⟩ l = R := ⟨_, rfl⟩
      obtain ⟨bb, hbb⟩ : ∃ b, putB ⟨dig k h q r zs.length zs, k, zs, h, q, r, 1⟩ l = b := ⟨_, rfl⟩
      rw [hRR, hbb] at hP
      rw [hRR] at hR
      have hR' : room R ≤ room l + (1 + zs.length) := hR
      clear hRR hbb hR hpo row2 hv2 hv dgr
      go_wp2_with fail
      go_at_call 22
      refine hP.mono ?_
      rintro e w3 ⟨v3, G3, rfl, hv4, hb3⟩
      obtain ⟨va3, vc3, rfl⟩ := hv4.slice
      have hc3 := hc2.below hb3
      have ho3 := (hor.trans ho2).trans (Only.of_below hb3)
      have hv5 := hv4.down (Nat.le_trans hsr hs2)
      clear hP hv4 hv3 hc2 ho2 hcr hor
      go_wp2
      go_roundw
      case rel => exact ⟨m - 1, R, G3, by go_num, by omega, by omega, hv5, hc3, ho3⟩
      case measure => simp [Go.RowKit.intOf]; omega
    · have hg : decide ((m : Int) > 0) = false := by simp; omega
      have hg2 : decide ((0 : Int) < m) = false := by simp; omega
      obtain ⟨va, vc, rfl⟩ := hv.slice
      go_wp2
      go_ret
      exact ⟨_, G, l, rfl, hv, by omega, hcr, hor⟩

/-- A list of parts that can be read, drawn. -/
def IsPR (B p : Nat) (w : World) (e : Ending) (w' : World) : Prop :=
  ∃ a n c l, e = .returned (.slice a n c) ∧ PRow w.heap.size w'.heap.size w' a n l ∧ room l ≤ 64 ∧ Cur 93 B p w' ∧ Only p w w'

set_option maxHeartbeats 4000000 in
set_option maxRecDepth 100000 in
theorem any7 (B p : Nat) (w : World) (hc : Cur 93 B p w) :
    Calls Tryz.prog 31 #[.pointer (some ⟨p, 0, none⟩)] w (IsPR B p w) := by
  have hp := hc.lt
  have hBp := hc.1
  go_enter Tryz.func31, Tryz.ntmps31
  go_wp2_with fail
  go_at_call 69
  refine (draw7 B p _ hc).mono ?_
  rintro e w1 ⟨v, G, l, rfl, hv, hrm, hc1, ho1⟩
  have hs1 := ho1.size
  have hlr := room_eq l
  obtain ⟨n, hn⟩ : ∃ n, l.length = n := ⟨_, rfl⟩
  rw [hn] at hv hlr
  have HN := Lib.hid hn
  clear hn
  by_cases hn0 : n = 0
  · obtain ⟨va, vc, rfl, hnc, hcm, hpo⟩ := hv.shape
    have ht : (((0 : Nat) : Int) == 0) = true := rfl
    subst hn0
    have hrow := hpo.row
    clear hpo hv
    go_wp2
    go_ret
    exact ⟨_, _, _, l, rfl, hrow, by omega, hc1, ho1⟩
  have ht : ((n : Int) == 0) = false := by simp [hn0]
  obtain ⟨g, vc, rfl⟩ : ∃ g cap, v = .slice (some ⟨g, 0, none⟩) n cap := by
    rcases hv.row.2 with ⟨_, h0⟩ | ⟨g, cap, cur, e, _⟩
    · omega
    · exact ⟨g, cap, e⟩
  have hgl := (hv.row.lt g rfl).1
  have hgh := hv.lt g rfl
  go_wp2_with fail
  go_at_call 34
  refine (below_any B p n _ hc1 (by omega) (by omega)).mono ?_
  rintro e w2 ⟨⟨y, hy, rfl⟩, hc2, ho2⟩
  have hyn : y < n := by simp at hy; omega
  have hs2 := ho2.size
  have hv2 := hv.on ho2 hp
  have hoB := ho1.trans ho2
  clear hc1 ho1 hv hy ho2 hc
  go_wp2_with fail
  go_at_call 34
  refine (below_any B p 9 _ hc2 (by omega) (by omega)).mono ?_
  rintro e w3 ⟨⟨z, hz, rfl⟩, hc3, ho3⟩
  have hs3 := ho3.size
  have hv3 := hv2.on ho3 hp
  have hoC := hoB.trans ho3
  have hyl : y < l.length := by rw [HN.out]; exact hyn
  have hcell := hv3.cells rfl y hyn
  have hfz := fun o => hv3.row.frozenAt o
  have hwf := hv3.wf _ (pt_mem hyl)
  obtain ⟨hb1, hb2, hb3⟩ := hv3.body y hyn
  have hbo := hv3.out y hyn
  obtain ⟨F, hF⟩ : ∃ F, G.getD y noBody = F := ⟨_, rfl⟩
  obtain ⟨P, hP⟩ : ∃ P, pt l y = P := ⟨_, rfl⟩
  rw [hF] at hcell hb1 hb2 hb3 hbo
  rw [hP] at hcell hb1 hb2 hbo hwf
  have hPr : P.zs.length ≤ 30 := by
    have h3 := bodies_take l y hyl
    have h4 := bodies_le l (y + 1)
    rw [hP] at h3
    have := room_eq l
    omega
  have hyi : (y : Int) < (n : Int) := by omega
  clear hF hP hoB hc2 hv2 ho3 hyl
  by_cases z0 : z = 0
  · subst z0
    obtain ⟨D, hD⟩ : ∃ D, IntKind.wrap .i64 (P.d + 1) = D := ⟨_, rfl⟩
    have wD : (Lit.int .i64 D).wf = true := by rw [← hD]; exact wf_wrap _
    have hrow := row_edit (hi' := w3.heap.size) (P := { P with d := D }) hv3 hyn (by omega) (fun k hk hne => Below.heap_setCell w3 ⟨g, y * 7, none⟩ (.int .i64 D) k hne) (fun x hx => cell_set_ne (.int .i64 D) (by omega)) (hcell.setD D)
      ⟨own_other hb1 (by omega) (fun k hk hne => Below.heap_setCell w3 ⟨g, y * 7, none⟩ (.int .i64 D) k hne) (fun x hx hp e => hbo x hx hp (by rw [e]; rfl)), hb2, hb3⟩ ⟨wD, hwf.2⟩
    have hss : (w3.setCell ⟨g, y * 7, none⟩ (.int .i64 D)).heap.size = w3.heap.size := size_set _ _ _
    have hrs := room_set (P := { P with d := D }) (l := l) (i := y)
    have hrs' : room (l.set y { P with d := D }) ≤ room l + P.zs.length := hrs
    have hcF := hc3.only_new (a := ⟨g, y * 7, none⟩) (by show g ≠ p; omega) (by show B ≤ g; omega) (.int .i64 D)
    have hoF := hoC.setNew (a := ⟨g, y * 7, none⟩) (by show w.heap.size ≤ g; omega) (.int .i64 D)
    have f0 := hfz (y * 7)
    obtain ⟨c0, c1, c2, c3, c4, c5, c6⟩ := hcell
    clear hfz hv3 hb1 hbo hwf hrs
    go_wp2
    go_ret
    exact ⟨_, _, _, _, rfl, by rw [hss]; exact hrow, by omega, hcF, hoF⟩
  have e0 : ((z : Int) == 0) = false := by simp; omega
  by_cases z1 : z = 1
  · subst z1
    go_wp2_with (go_at_call 70; refine (int_new B _ [0, 1000, 1001, 9223372036854775807] _ _ _ rfl _ _ rfl hc3 (by simp) (by simp)).mono ?_; rintro e w7 ⟨⟨u, hu, rfl⟩, hc7, ho7⟩; have hs7 := ho7.size; have hv7 := hv3.on ho7 hp; have f6 := hv7.row.frozenAt (y * 7 + 6); have hcell7 := hcell.keep (ho7.block g (by omega) (by omega)); have c6 := hcell7.c6; have hb7 := hb1.keep (w' := w7) (fun i h0 h1 h2 => ho7.block i h0 (by omega)))
    have wU : (Lit.int .i64 u).wf = true := WalkArith.wf_i64 (by simp at hu; omega)
    have hrow := row_edit (hi' := w7.heap.size) (P := { P with u := u }) hv7 hyn (by omega) (fun k hk hne => Below.heap_setCell w7 ⟨g, y * 7 + 6, none⟩ (.int .i64 u) k hne) (fun x hx => cell_set_ne (.int .i64 u) (by omega)) (hcell7.setU u)
      ⟨own_other hb7 (by omega) (fun k hk hne => Below.heap_setCell w7 ⟨g, y * 7 + 6, none⟩ (.int .i64 u) k hne) (fun x hx hp e => hbo x hx hp (by rw [e]; rfl)), hb2, hb3⟩ ⟨hwf.1, hwf.2.1, hwf.2.2.1, hwf.2.2.2.1, hwf.2.2.2.2.1, wU⟩
    have hss : (w7.setCell ⟨g, y * 7 + 6, none⟩ (.int .i64 u)).heap.size = w7.heap.size := size_set _ _ _
    have hrs' : room (l.set y { P with u := u }) ≤ room l + P.zs.length := room_set (P := { P with u := u }) (l := l) (i := y)
    have hcF := hc7.only_new (a := ⟨g, y * 7 + 6, none⟩) (by show g ≠ p; omega) (by show B ≤ g; omega) (.int .i64 u)
    have hoF := (hoC.trans ho7).setNew (a := ⟨g, y * 7 + 6, none⟩) (by show w.heap.size ≤ g; omega) (.int .i64 u)
    go_ret
    exact ⟨_, _, _, _, rfl, by rw [hss]; exact hrow, by omega, hcF, hoF⟩
  have e1 : ((z : Int) == 1) = false := by simp; omega
  by_cases z2 : z = 2
  · subst z2
    have f1 := hfz (y * 7 + 1)
    go_wp2_with fail
    go_at_call 32
    refine (any5 B p _ hc3).mono ?_
    rintro e w7 ⟨k, h, q, r, a', n', c', zs, hk, hh, hq, hr, rfl, hvz, hn', hgd, hc7, ho7⟩
    obtain ⟨row7, hzc, hzm⟩ := ownR hvz hgd
    have hzl := row7.len
    subst hzl
    have hs7 := ho7.size
    have hv7 := hv3.on ho7 hp
    have hcell7 := hcell.keep (ho7.block g (by omega) (by omega))
    have hrow7 : Row .i64 w.heap.size (set5 w7 g (y * 7) k (.slice a' zs.length c') h q r).heap.size (set5 w7 g (y * 7) k (.slice a' zs.length c') h q r) a' zs.length zs :=
      ((row7.keep (fun i h0 h1 _ => set5_block w7 g (y * 7) k _ h q r i (by omega))).more (by omega) (by rw [set5_size]; exact Nat.le_refl _))
    have hrow := row_edit (hi' := (set5 w7 g (y * 7) k (.slice a' zs.length c') h q r).heap.size) (P := { P with k := k, zs := zs, h := h, p := q, q := r }) hv7 hyn (by rw [set5_size]; omega) (fun i hi hne => set5_block w7 g (y * 7) k _ h q r i hne) (fun x hx => set5_other w7 g (y * 7) k _ h q r x (by omega)) (hcell7.setR k h q r zs a' c')
      ⟨hrow7, hzc, hzm⟩ ⟨hwf.1, wfI hk, wfI hh, wfI hq, wfI hr, hwf.2.2.2.2.2⟩
    have hrs' : room (l.set y { P with k := k, zs := zs, h := h, p := q, q := r }) ≤ room l + zs.length := room_set (P := { P with k := k, zs := zs, h := h, p := q, q := r }) (l := l) (i := y)
    have hcF : Cur 93 B p (set5 w7 g (y * 7) k (.slice a' zs.length c') h q r) := by
      unfold set5
      iterate 5 (refine Cur.only_new ?_ (by show g ≠ p; omega) (by show B ≤ g; omega) _)
      exact hc7
    have hoF : Only p w (set5 w7 g (y * 7) k (.slice a' zs.length c') h q r) := by
      unfold set5
      iterate 5 (refine Only.setNew ?_ (by show w.heap.size ≤ g; omega) _)
      exact hoC.trans ho7
    have f1 := hv7.row.frozenAt (y * 7 + 1)
    have f2 := hv7.row.frozenAt (y * 7 + 2)
    have f3 := hv7.row.frozenAt (y * 7 + 3)
    have f4 := hv7.row.frozenAt (y * 7 + 4)
    have f5 := hv7.row.frozenAt (y * 7 + 5)
    obtain ⟨c0, c1, c2, c3, c4, c5, c6⟩ := hcell7
    unfold set5 at hrow hcF hoF
    clear hfz hv3 hb1 hbo hwf hv7 row7 hrow7 hcell hvz
    go_wp2
    go_ret
    exact ⟨_, _, _, _, rfl, hrow, by omega, hcF, hoF⟩
  have e2 : ((z : Int) == 2) = false := by simp; omega
  by_cases z3 : z = 3
  · subst z3
    have hn1 : (0 : Int) < (n : Int) := by omega
    have h0l : 0 < l.length := by rw [HN.out]; omega
    have hcell0 := hv3.cells rfl 0 (by omega)
    rw [Nat.zero_mul] at hcell0
    have hm0 := pt_mem h0l
    have hb0 := hv3.body 0 (by omega)
    have hbo0 := hv3.out 0 (by omega)
    have hp0 : (pt l 0).zs.length ≤ 30 := by
      have h3 := bodies_take l 0 h0l
      have h4 := bodies_le l (0 + 1)
      have := room_eq l
      have h5 : bodies (l.take 0) = 0 := rfl
      omega
    obtain ⟨F0, hF0⟩ : ∃ F, G.getD 0 noBody = F := ⟨_, rfl⟩
    obtain ⟨P0, hP0⟩ : ∃ P, pt l 0 = P := ⟨_, rfl⟩
    rw [hF0, hP0] at hcell0 hb0 hbo0
    rw [hP0] at hm0 hp0
    clear hF0 hP0 hcell hfz hbo
    have hv8 := hv3.more (show w1.heap.size ≤ w3.heap.size by omega)
    obtain ⟨W, hW⟩ : ∃ W, W = w3.alloc (.cells #[.int .i64 P0.d, .int .i64 P0.k, .slice F0.1 P0.zs.length F0.2, .int .i64 P0.h, .int .i64 P0.p, .int .i64 P0.q, .int .i64 P0.u] 62) := ⟨_, rfl⟩
    have hA : Below w3.heap.size w3 W := by rw [hW]; exact (Below.refl _ _).alloc (Nat.le_refl _) _
    have hsW := hA.size
    have hvW := hv8.below hA
    obtain ⟨y0, y1, y2, y3, y4, y5, y6⟩ := (Sept.new 62 (.int .i64 P0.d) (.int .i64 P0.k) (.slice F0.1 P0.zs.length F0.2) (.int .i64 P0.h) (.int .i64 P0.p) (.int .i64 P0.q) (.int .i64 P0.u) w3).cells
    rw [← hW] at y0 y1 y2 y3 y4 y5 y6
    have hcW : Cells7 W w3.heap.size 0 P0 F0.1 F0.2 := ⟨y0, y1, y2, y3, y4, y5, y6⟩
    have hbW := ((hb0.1.more (Nat.le_refl _) (show w1.heap.size ≤ w3.heap.size by omega)).below hA)
    subst hW
    have hcc := hc3.below hA
    have hoo := hoC.trans (Only.of_below hA)
    clear y0 y1 y2 y3 y4 y5 y6 hv3 hv8 hA hb1 hoC hc3
    obtain ⟨x0, x1, x2, x3, x4, x5, x6⟩ := hcell0
    go_wp2_with (at_builtin; refine wpList_append_shared (M := w3.heap.size) rfl _ _ rfl hvW hcW ?c1 ?c2 ?c3 hm0 ⟨hbW, hb0.2⟩ hbo0 rfl rfl ?_; (case c1 => exact hsW); (case c2 => omega); (case c3 => omega); intro v' w5 hv5 hb5 hg5 hs5)
    obtain ⟨a5, c5, rfl, h5, hr5⟩ := hv5
    have hcF : Cur 93 B p w5 := hcc.under hb5 hp
    have hoF : Only p w w5 := hoo.under hb5 (Nat.le_refl _)
    have hra := room_append l [P0]
    have hr1 : room [P0] = 1 + P0.zs.length := rfl
    go_ret
    exact ⟨_, _, _, _, rfl, hr5, by omega, hcF, hoF⟩
  have e3 : ((z : Int) == 3) = false := by simp; omega
  obtain ⟨a', c', e, _, _, hpo⟩ := hv3.shape
  injection e with e4 _ e5
  subst e4 e5
  have hrow := hpo.row.more (Nat.le_refl _) (show w1.heap.size ≤ w3.heap.size by omega)
  clear hcell hfz hbo hb1 hwf hv3 hpo
  go_wp2
  go_ret
  exact ⟨_, _, _, l, rfl, hrow, by omega, hc3, hoC⟩
end Go.Proofs.YtedjclnojocjkaaGreatDoor.Draw
