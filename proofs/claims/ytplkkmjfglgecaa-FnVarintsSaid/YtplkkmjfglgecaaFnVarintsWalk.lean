/-
  For every row of bytes that a test is drawn from, the law FnVarints returns true: what is appended is read back, and what is read is what would be appended.
  Conditions: the argument can be read.
-/
import Derived.Test.YtplkkmjfglgecaaDraws2
import Derived.Test.YtplkkmjfglgecaaDecode
import Derived.Test.YtplkkmjfglgecaaSameB
import Derived.Test.YtplkkmjfglgecaaVarInv
import Derived.Deep.RegionHeld3
namespace Go.Proofs.Ytplkkmjfglgecaa.FnVarintsW
open Go Go.RowKit Go.Proofs.Ytplkkmjfglgecaa.Mem
set_option linter.unusedVariables false

theorem read_back (zs : List Int) (X : Nat) (h : X ≤ 1000000000000) : ∃ L, (Var.app zs (X : Int)).length = zs.length + L ∧ Read.rdAt (Var.app zs (X : Int)) zs.length = some (X, L) ∧ L ≤ 6 := by
  have h6 := Var.uv_len6 h
  rw [Var.app_in zs X (by omega) (by omega), Int.toNat_natCast]
  refine ⟨(Var.uv X).length, by simp, ?_, h6.2⟩
  unfold Read.rdAt
  rw [if_pos (by omega), Int.toNat_natCast, List.drop_left]
  have := Var.rdv_uv X [] h
  simpa using this
theorem read_end (zs : List Int) : Read.rdAt zs zs.length = none := by
  unfold Read.rdAt
  rw [if_pos (by omega), Int.toNat_natCast, List.drop_length]
  rfl
theorem inv_at {ys : List Int} {off : Int} {m l : Nat} (hwf : ∀ z ∈ ys, (Lit.int .u8 z).wf = true) (h : Read.rdAt ys off = some (m, l)) : (ys.drop off.toNat).take l = Var.app [] (m : Int) ∧ (Var.app [] (m : Int)).length = l := by
  obtain ⟨g0, g1, g2, g3, g4⟩ := Read.rdAt_some h
  unfold Read.rdAt at h
  rw [if_pos g0] at h
  have h1 := Var.rdv_inv (fun z hz => bounds_u8 (hwf z (List.mem_of_mem_drop hz))) h
  rw [Var.app_in [] m (by omega) (by omega), Int.toNat_natCast, List.nil_append, ← h1]
  refine ⟨rfl, ?_⟩
  simp
  omega

theorem _root_.Go.Proofs.Ytplkkmjfglgecaa.Draw.Bytes.under {B C : Nat} {w w' : World} {a : Option Addr} {n : Nat} (h : Draw.Bytes B w a n) (hb : Below C w w') (hB : B ≤ C) : Draw.Bytes B w' a n :=
  ⟨h.1, fun j hj => by
    obtain ⟨b, off, x, ha, hbB, hx, hc⟩ := h.2 j hj
    exact ⟨b, off, x, ha, hbB, hx, by rw [Mem.cell_of_heap (hb.block b (by omega))]; exact hc⟩⟩

set_option maxHeartbeats 4000000 in
set_option maxRecDepth 100000 in
theorem walk_small (a : Option Addr) (n c : Nat) (w : World) (hb : Draw.Bytes w.heap.size w a n) (hn : n ≤ 1048576) :
    Calls Try.prog 3 #[.slice a n c] w fun e w' => e = .returned (.bool true) ∧ Below w.heap.size w w' := by
  go_enter Try.func3, Try.ntmps3
  go_wp2_with (go_at_call 12; go_in)
  go_at_call 13
  refine (Draw.draw_append_uvarint w.heap.size a n c _ hb (Nat.le_refl _)).mono ?_
  rintro e w1 ⟨q, m, k, zs, x, rfl, hq1, hm, hk, hkm, hx0, hx1, hb1⟩
  have hs1 := hb1.size
  have HM := Lib.hid hq1.len
  by_cases hx : 0 ≤ x ∧ x ≤ 1000000000000
  · obtain ⟨X, rfl⟩ : ∃ X : Nat, x = X := ⟨x.toNat, by omega⟩
    obtain ⟨L, hL1, hL2, hL⟩ := read_back zs X (by omega)
    rw [HM.out] at hL1 hL2
    have HL1 := Lib.hid hL1
    have HL2 := Lib.hid hL2
    clear hL1 hL2
    obtain ⟨hX0, hX1⟩ := hx
    go_wp2_with fail
    go_at_call 14
    refine (Var.append_slice _ _ (X : Int) _ _ _ _ zs hq1.row (Nat.le_refl _) (by omega)).mono ?_
    rintro e w2 ⟨q2, c2, rfl, ho2, _, _, hb2⟩
    rw [HL1.out] at ho2 ⊢
    have hs2 := hb2.size
    have hB2 := hb1.trans (hb2.mono hs1)
    go_wp2_with fail
    go_at_call 15
    refine (Read.impl_some ho2.row (Nat.le_refl _) (by omega) (by omega) HL2).mono ?_
    rintro e w3 ⟨rfl, hb3⟩
    have hs3 := hb3.size
    have hB3 := hB2.trans (hb3.mono hB2.size)

    go_wp2_with fail
    go_at_call 17
    refine (Draw.draw_read_uvarint w.heap.size a n c _ (hb.under hB3 (Nat.le_refl _)) (by have := hB3.size; omega)).mono ?_
    rintro e w5 ⟨y, ny, ky, ys, off, rfl, hy5, hny, hky, hkm, ho0, ho1, hb5⟩
    have hs5 := hb5.size
    have hB5 := hB3.trans (hb5.mono hB3.size)
    cases hR : Read.rdAt ys off with
    | none =>
      have HR := Lib.hid hR
      clear hR
      go_wp2_with fail
      go_at_call 15
      refine (Read.impl_none hy5.row (Nat.le_refl _) (by omega) (by omega) HR).mono ?_
      rintro e w6 ⟨rfl, hb6⟩
      have hs6 := hb6.size
      have hB6 := hB5.trans (hb6.mono hB5.size)
      have hy6 := hy5.below hb6
      go_wp2_with fail
      go_at_call 18
      refine (Read.spec_none hy6.row (by omega) (by omega) (by omega) HR).mono ?_
      rintro e w7 ⟨rfl, hb7⟩
      have hB7 := hB6.trans (hb7.mono hB6.size)
      go_wp2
      go_ret
      exact ⟨rfl, hB7⟩
    | some ml =>
      obtain ⟨m2, l2⟩ := ml
      obtain ⟨g0, g1, g2, g3, g4⟩ := Read.rdAt_some hR
      have hys := hy5.len
      have g5 : off + (l2 : Int) ≤ ny := by omega
      obtain ⟨e1, e2⟩ := inv_at hy5.row.wf hR
      have E1 := Lib.hid e1
      have E2 := Lib.hid e2
      have HR := Lib.hid hR
      clear hR e1 e2 g4 hys
      obtain ⟨o, rfl⟩ : ∃ o : Nat, off = o := ⟨off.toNat, by omega⟩
      obtain ⟨b0, f0, rfl, _, _, hall⟩ := hy5.here (by omega)
      obtain ⟨hcell5, _⟩ := hall o (by omega)
      obtain ⟨z, hz⟩ : ∃ z, Hid (ys.getD o 0 = z) := ⟨_, rfl⟩
      rw [hz.out] at hcell5
      clear hall
      go_wp2_with fail
      go_at_call 15
      refine (Read.impl_some hy5.row (Nat.le_refl _) (by omega) (by omega) HR).mono ?_
      rintro e w6 ⟨rfl, hb6⟩
      have hs6 := hb6.size
      have hB6 := hB5.trans (hb6.mono hB5.size)
      have hy6 := hy5.below hb6
      have hcc : ¬ ky - o = 0 := by omega
      have hp := Read.Row.part (s := o) (m := l2) hy6.row (by omega)
      rw [Int.toNat_natCast] at E1
      rw [E1.out] at hp
      have hcell : w6.cell? ⟨b0, f0 + o, none⟩ = some (.int .u8 z) := by rw [Mem.cell_of_heap (hb6.block b0 (Mem.cell_lt hcell5))]; exact hcell5
      have h1 : decide ((0 : Int) ≤ (o : Int)) = true := by simp
      have h2 : decide ((o : Int) + (l2 : Int) ≤ (ny : Int)) = true := by simp; omega
      have h3 : decide ((o : Int) < (o : Int) + (l2 : Int)) = true := by simp; omega
      have i1 : (0 : Int) ≤ (o : Int) := by omega
      have i2 : (o : Int) ≤ (o : Int) + (l2 : Int) := by omega
      have i3 : (o : Int) + (l2 : Int) ≤ (ky : Int) := by omega
      have i4 : ((o : Int) + (l2 : Int)).toNat = o + l2 := by omega
      have hnew := World.new_ne w6 ⟨b0, f0 + o, none⟩ hcell
      go_wp2_with fail
      go_region_held3 (fun w' => w'.cell? ⟨b0, f0 + o, none⟩ = some (.int .u8 z))
        (first | exact hcell | exact hcell7 | go_keep)
        (first
        | (go_at_call 14; refine (Var.append_slice 0 0 (m2 : Int) _ _ _ _ [] (Row.nil _ _ _ _ _) (Nat.zero_le _) (by omega)).mono ?_; rintro e w7 ⟨q7, c7, rfl, ho7, _, _, hb7⟩; have hb7' : Below w6.heap.size w6 w7 := ((Below.refl _ _).alloc (Nat.le_refl _) _).drew.trans (hb7.mono (by simp)); have hcell7 : w7.cell? ⟨b0, f0 + o, none⟩ = some (.int .u8 z) := (by rw [Mem.cell_of_heap (hb7'.block b0 (Mem.cell_lt hcell))]; exact hcell); have hp7 := hp.below hb7'; clear hb7; rw [E2.out] at ho7 ⊢)
        | (go_at_call 16; refine (SameB.eq_same _ _ _ _ _ q7 _ l2 c7 _ _ ho7.row hp7 (by omega)).mono ?_; rintro e w8 ⟨rfl, m8, rfl⟩))
      go_wp2
      go_ret
      exact ⟨rfl, below_drewN (hB6.trans (hb7'.mono hB6.size)) _⟩

  · have HX := Lib.hid (read_end zs)
    rw [HM.out] at HX
    have happ := Var.app_out zs x (by omega)
    have hxx : Hid (x < 0 ∨ 1000000000000 < x) := by unfold Hid; omega
    have HA := Lib.hid happ
    clear happ hx
    go_wp2_with fail
    go_at_call 14
    refine (Var.append_slice _ _ x _ _ _ _ zs hq1.row (Nat.le_refl _) (by omega)).mono ?_
    rintro e w2 ⟨q2, c2, rfl, ho2, _, _, hb2⟩
    rw [HA.out, HM.out] at ho2 ⊢
    have hs2 := hb2.size
    have hB2 := hb1.trans (hb2.mono hs1)
    have hq2 := hq1.below hb2
    go_wp2_with fail
    go_at_call 15
    refine (Read.impl_none ho2.row (Nat.le_refl _) (by omega) (by omega) HX).mono ?_
    rintro e w3 ⟨rfl, hb3⟩
    have hs3 := hb3.size
    have hB3 := hB2.trans (hb3.mono hB2.size)
    have hq3 := hq2.below hb3
    have ho3 := ho2.below hb3
    rcases hxx.out with hx2 | hx2
    · go_wp2_with fail
      go_at_call 16
      refine (SameB.eq_same _ _ _ _ _ q2 q m c2 _ _ ho3.row hq3.row (by omega)).mono ?_
      rintro e w4 ⟨rfl, m4, hw4⟩
      have hB4 : Below w.heap.size w w4 := by rw [hw4]; exact below_drewN hB3 _
      clear hw4

      go_wp2_with fail
      go_at_call 17
      refine (Draw.draw_read_uvarint w.heap.size a n c _ (hb.under hB4 (Nat.le_refl _)) (by have := hB4.size; omega)).mono ?_
      rintro e w5 ⟨y, ny, ky, ys, off, rfl, hy5, hny, hky, hkm, ho0, ho1, hb5⟩
      have hs5 := hb5.size
      have hB5 := hB4.trans (hb5.mono hB4.size)
      cases hR : Read.rdAt ys off with
      | none =>
        have HR := Lib.hid hR
        clear hR
        go_wp2_with fail
        go_at_call 15
        refine (Read.impl_none hy5.row (Nat.le_refl _) (by omega) (by omega) HR).mono ?_
        rintro e w6 ⟨rfl, hb6⟩
        have hs6 := hb6.size
        have hB6 := hB5.trans (hb6.mono hB5.size)
        have hy6 := hy5.below hb6
        go_wp2_with fail
        go_at_call 18
        refine (Read.spec_none hy6.row (by omega) (by omega) (by omega) HR).mono ?_
        rintro e w7 ⟨rfl, hb7⟩
        have hB7 := hB6.trans (hb7.mono hB6.size)
        go_wp2
        go_ret
        exact ⟨rfl, hB7⟩
      | some ml =>
        obtain ⟨m2, l2⟩ := ml
        obtain ⟨g0, g1, g2, g3, g4⟩ := Read.rdAt_some hR
        have hys := hy5.len
        have g5 : off + (l2 : Int) ≤ ny := by omega
        obtain ⟨e1, e2⟩ := inv_at hy5.row.wf hR
        have E1 := Lib.hid e1
        have E2 := Lib.hid e2
        have HR := Lib.hid hR
        clear hR e1 e2 g4 hys
        obtain ⟨o, rfl⟩ : ∃ o : Nat, off = o := ⟨off.toNat, by omega⟩
        obtain ⟨b0, f0, rfl, _, _, hall⟩ := hy5.here (by omega)
        obtain ⟨hcell5, _⟩ := hall o (by omega)
        obtain ⟨z, hz⟩ : ∃ z, Hid (ys.getD o 0 = z) := ⟨_, rfl⟩
        rw [hz.out] at hcell5
        clear hall
        go_wp2_with fail
        go_at_call 15
        refine (Read.impl_some hy5.row (Nat.le_refl _) (by omega) (by omega) HR).mono ?_
        rintro e w6 ⟨rfl, hb6⟩
        have hs6 := hb6.size
        have hB6 := hB5.trans (hb6.mono hB5.size)
        have hy6 := hy5.below hb6
        have hcc : ¬ ky - o = 0 := by omega
        have hp := Read.Row.part (s := o) (m := l2) hy6.row (by omega)
        rw [Int.toNat_natCast] at E1
        rw [E1.out] at hp
        have hcell : w6.cell? ⟨b0, f0 + o, none⟩ = some (.int .u8 z) := by rw [Mem.cell_of_heap (hb6.block b0 (Mem.cell_lt hcell5))]; exact hcell5
        have h1 : decide ((0 : Int) ≤ (o : Int)) = true := by simp
        have h2 : decide ((o : Int) + (l2 : Int) ≤ (ny : Int)) = true := by simp; omega
        have h3 : decide ((o : Int) < (o : Int) + (l2 : Int)) = true := by simp; omega
        have i1 : (0 : Int) ≤ (o : Int) := by omega
        have i2 : (o : Int) ≤ (o : Int) + (l2 : Int) := by omega
        have i3 : (o : Int) + (l2 : Int) ≤ (ky : Int) := by omega
        have i4 : ((o : Int) + (l2 : Int)).toNat = o + l2 := by omega
        have hnew := World.new_ne w6 ⟨b0, f0 + o, none⟩ hcell
        go_wp2_with fail
        go_region_held3 (fun w' => w'.cell? ⟨b0, f0 + o, none⟩ = some (.int .u8 z))
          (first | exact hcell | exact hcell7 | go_keep)
          (first
          | (go_at_call 14; refine (Var.append_slice 0 0 (m2 : Int) _ _ _ _ [] (Row.nil _ _ _ _ _) (Nat.zero_le _) (by omega)).mono ?_; rintro e w7 ⟨q7, c7, rfl, ho7, _, _, hb7⟩; have hb7' : Below w6.heap.size w6 w7 := ((Below.refl _ _).alloc (Nat.le_refl _) _).drew.trans (hb7.mono (by simp)); have hcell7 : w7.cell? ⟨b0, f0 + o, none⟩ = some (.int .u8 z) := (by rw [Mem.cell_of_heap (hb7'.block b0 (Mem.cell_lt hcell))]; exact hcell); have hp7 := hp.below hb7'; clear hb7; rw [E2.out] at ho7 ⊢)
          | (go_at_call 16; refine (SameB.eq_same _ _ _ _ _ q7 _ l2 c7 _ _ ho7.row hp7 (by omega)).mono ?_; rintro e w8 ⟨rfl, m8, rfl⟩))
        go_wp2
        go_ret
        exact ⟨rfl, below_drewN (hB6.trans (hb7'.mono hB6.size)) _⟩
    · go_wp2_with fail
      go_at_call 16
      refine (SameB.eq_same _ _ _ _ _ q2 q m c2 _ _ ho3.row hq3.row (by omega)).mono ?_
      rintro e w4 ⟨rfl, m4, hw4⟩
      have hB4 : Below w.heap.size w w4 := by rw [hw4]; exact below_drewN hB3 _
      clear hw4

      go_wp2_with fail
      go_at_call 17
      refine (Draw.draw_read_uvarint w.heap.size a n c _ (hb.under hB4 (Nat.le_refl _)) (by have := hB4.size; omega)).mono ?_
      rintro e w5 ⟨y, ny, ky, ys, off, rfl, hy5, hny, hky, hkm, ho0, ho1, hb5⟩
      have hs5 := hb5.size
      have hB5 := hB4.trans (hb5.mono hB4.size)
      cases hR : Read.rdAt ys off with
      | none =>
        have HR := Lib.hid hR
        clear hR
        go_wp2_with fail
        go_at_call 15
        refine (Read.impl_none hy5.row (Nat.le_refl _) (by omega) (by omega) HR).mono ?_
        rintro e w6 ⟨rfl, hb6⟩
        have hs6 := hb6.size
        have hB6 := hB5.trans (hb6.mono hB5.size)
        have hy6 := hy5.below hb6
        go_wp2_with fail
        go_at_call 18
        refine (Read.spec_none hy6.row (by omega) (by omega) (by omega) HR).mono ?_
        rintro e w7 ⟨rfl, hb7⟩
        have hB7 := hB6.trans (hb7.mono hB6.size)
        go_wp2
        go_ret
        exact ⟨rfl, hB7⟩
      | some ml =>
        obtain ⟨m2, l2⟩ := ml
        obtain ⟨g0, g1, g2, g3, g4⟩ := Read.rdAt_some hR
        have hys := hy5.len
        have g5 : off + (l2 : Int) ≤ ny := by omega
        obtain ⟨e1, e2⟩ := inv_at hy5.row.wf hR
        have E1 := Lib.hid e1
        have E2 := Lib.hid e2
        have HR := Lib.hid hR
        clear hR e1 e2 g4 hys
        obtain ⟨o, rfl⟩ : ∃ o : Nat, off = o := ⟨off.toNat, by omega⟩
        obtain ⟨b0, f0, rfl, _, _, hall⟩ := hy5.here (by omega)
        obtain ⟨hcell5, _⟩ := hall o (by omega)
        obtain ⟨z, hz⟩ : ∃ z, Hid (ys.getD o 0 = z) := ⟨_, rfl⟩
        rw [hz.out] at hcell5
        clear hall
        go_wp2_with fail
        go_at_call 15
        refine (Read.impl_some hy5.row (Nat.le_refl _) (by omega) (by omega) HR).mono ?_
        rintro e w6 ⟨rfl, hb6⟩
        have hs6 := hb6.size
        have hB6 := hB5.trans (hb6.mono hB5.size)
        have hy6 := hy5.below hb6
        have hcc : ¬ ky - o = 0 := by omega
        have hp := Read.Row.part (s := o) (m := l2) hy6.row (by omega)
        rw [Int.toNat_natCast] at E1
        rw [E1.out] at hp
        have hcell : w6.cell? ⟨b0, f0 + o, none⟩ = some (.int .u8 z) := by rw [Mem.cell_of_heap (hb6.block b0 (Mem.cell_lt hcell5))]; exact hcell5
        have h1 : decide ((0 : Int) ≤ (o : Int)) = true := by simp
        have h2 : decide ((o : Int) + (l2 : Int) ≤ (ny : Int)) = true := by simp; omega
        have h3 : decide ((o : Int) < (o : Int) + (l2 : Int)) = true := by simp; omega
        have i1 : (0 : Int) ≤ (o : Int) := by omega
        have i2 : (o : Int) ≤ (o : Int) + (l2 : Int) := by omega
        have i3 : (o : Int) + (l2 : Int) ≤ (ky : Int) := by omega
        have i4 : ((o : Int) + (l2 : Int)).toNat = o + l2 := by omega
        have hnew := World.new_ne w6 ⟨b0, f0 + o, none⟩ hcell
        go_wp2_with fail
        go_region_held3 (fun w' => w'.cell? ⟨b0, f0 + o, none⟩ = some (.int .u8 z))
          (first | exact hcell | exact hcell7 | go_keep)
          (first
          | (go_at_call 14; refine (Var.append_slice 0 0 (m2 : Int) _ _ _ _ [] (Row.nil _ _ _ _ _) (Nat.zero_le _) (by omega)).mono ?_; rintro e w7 ⟨q7, c7, rfl, ho7, _, _, hb7⟩; have hb7' : Below w6.heap.size w6 w7 := ((Below.refl _ _).alloc (Nat.le_refl _) _).drew.trans (hb7.mono (by simp)); have hcell7 : w7.cell? ⟨b0, f0 + o, none⟩ = some (.int .u8 z) := (by rw [Mem.cell_of_heap (hb7'.block b0 (Mem.cell_lt hcell))]; exact hcell); have hp7 := hp.below hb7'; clear hb7; rw [E2.out] at ho7 ⊢)
          | (go_at_call 16; refine (SameB.eq_same _ _ _ _ _ q7 _ l2 c7 _ _ ho7.row hp7 (by omega)).mono ?_; rintro e w8 ⟨rfl, m8, rfl⟩))
        go_wp2
        go_ret
        exact ⟨rfl, below_drewN (hB6.trans (hb7'.mono hB6.size)) _⟩

set_option maxRecDepth 100000 in
theorem law_walk (a : Option Addr) (n c : Nat) (zs : List Int) (w : World) (h : Row .u8 0 w.heap.size w a n zs) :
    Calls Try.prog 3 #[.slice a n c] w fun e w' => e = .returned (.bool true) ∧ Below w.heap.size w w' := by
  by_cases k : n ≤ 1048576
  · exact walk_small a n c w (Draw.bytes_of_row h (Nat.le_refl _) (by omega)) k
  · have k' : (1048576 : Int) < n := by omega
    go_enter Try.func3, Try.ntmps3
    go_wp2
    go_ret
    exact ⟨rfl, Below.refl _ _⟩
end Go.Proofs.Ytplkkmjfglgecaa.FnVarintsW
