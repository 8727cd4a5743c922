/-
  The draws of chapter 2's laws: short rows of bytes and numbers.
  Conditions: the input's bytes lie in memory that was there.
-/
import Derived.Test.YtplkkmjfglgecaaDrawRow
import Derived.Test.YtplkkmjfglgecaaVar
namespace Go.Proofs.Ytplkkmjfglgecaa.Draw
open Go Go.RowKit Go.Proofs.Ytplkkmjfglgecaa.Mem
set_option linter.unusedVariables false

/-- A row of at most `most` bytes, and a number from lo to hi. -/
def RowInt (most : Nat) (lo hi : Int) (w : World) (e : Ending) (w' : World) : Prop :=
  ∃ (q : Option Addr) (m k : Nat) (zs : List Int) (x : Int), e = .returned (.tuple #[.slice q m k, .int .i64 x]) ∧ Own .u8 w.heap.size w'.heap.size w' q m zs ∧ m ≤ most ∧ m ≤ k ∧ k ≤ maxLen ∧ lo ≤ x ∧ x ≤ hi ∧ Below w.heap.size w w'
/-- Two rows. -/
def RowRow (most most2 : Nat) (w : World) (e : Ending) (w' : World) : Prop :=
  ∃ (q : Option Addr) (m k : Nat) (zs : List Int) (q2 : Option Addr) (m2 k2 : Nat) (zs2 : List Int), e = .returned (.tuple #[.slice q m k, .slice q2 m2 k2]) ∧ Own .u8 w.heap.size w'.heap.size w' q m zs ∧ m ≤ most ∧ m ≤ k ∧ k ≤ maxLen ∧
    Own .u8 w.heap.size w'.heap.size w' q2 m2 zs2 ∧ m2 ≤ most2 ∧ m2 ≤ k2 ∧ k2 ≤ maxLen ∧ Below w.heap.size w w'

set_option maxRecDepth 100000 in
theorem draw_append_uvarint (B : Nat) (a : Option Addr) (n c : Nat) (w : World) (hb : Bytes B w a n) (hB : B ≤ w.heap.size) :
    Calls Try.prog 13 #[.slice a n c] w (RowInt 2 (-9223372036854775808) 9223372036854775807 w) := by
  go_enter Try.func13, Try.ntmps13
  go_wp2_with fail
  go_at_call 41
  refine (new_any B a n c _ hb hB).mono ?_
  rintro e w1 ⟨rfl, hc1, hb1⟩
  go_wp2_with fail
  go_at_call 43
  refine (below_any B _ _ _ hc1 (by omega) (by omega)).mono ?_
  rintro e w2 ⟨⟨m, hm, rfl⟩, hc2, ho2⟩
  have hb2 := hb1.trans (ho2.below (Nat.le_refl _) hb1.size)
  have hm2 : m ≤ 2 := by have : m < 3 := hm; omega
  go_wp2_with fail
  go_at_call 42
  refine (bytes_any B _ m _ hc2 (by omega)).mono ?_
  rintro e w3 ⟨v, zs, rfl, hv3, hwf, hc3, ho3⟩
  have hb3 := hb2.trans (ho3.below (Nat.le_refl _) hb2.size)
  have hpl := hc2.lt
  go_wp2_with fail
  go_at_call 44
  refine (one_any B _ _ hc3).mono ?_
  rintro e w4 ⟨⟨y, hy0, hy1, rfl⟩, hc4, ho4⟩
  have hb4 := hb3.trans (ho4.below (Nat.le_refl _) hb3.size)
  have hv4 := Only.own hv3 ho4 hpl
  go_wp2
  go_ret2
  obtain ⟨q, k, rfl, g1, g2, g3⟩ := hv4.own hwf
  exact ⟨_, _, _, _, _, rfl, g3.more (by have := hb2.size; omega) (Nat.le_refl _), hm2, g1, g2, hy0, hy1, hb4⟩

set_option maxHeartbeats 1000000 in
set_option maxRecDepth 100000 in
theorem draw_append_bytes (B : Nat) (a : Option Addr) (n c : Nat) (w : World) (hb : Bytes B w a n) (hB : B ≤ w.heap.size) :
    Calls Try.prog 19 #[.slice a n c] w (RowRow 2 5 w) := by
  go_enter Try.func19, Try.ntmps19
  go_wp2_with fail
  go_at_call 41
  refine (new_any B a n c _ hb hB).mono ?_
  rintro e w1 ⟨rfl, hc1, hb1⟩
  go_wp2_with fail
  go_at_call 43
  refine (below_any B _ _ _ hc1 (by omega) (by omega)).mono ?_
  rintro e w2 ⟨⟨m, hm, rfl⟩, hc2, ho2⟩
  have hb2 := hb1.trans (ho2.below (Nat.le_refl _) hb1.size)
  have hm2 : m ≤ 2 := by have : m < 3 := hm; omega
  go_wp2_with fail
  go_at_call 42
  refine (bytes_any B _ m _ hc2 (by omega)).mono ?_
  rintro e w3 ⟨v, zs, rfl, hv3, hwf, hc3, ho3⟩
  have hb3 := hb2.trans (ho3.below (Nat.le_refl _) hb2.size)
  have hpl := hc2.lt
  have hs3 := ho3.size
  go_wp2_with fail
  go_at_call 43
  refine (below_any B _ _ _ hc3 (by omega) (by omega)).mono ?_
  rintro e w4 ⟨⟨m5, hm5, rfl⟩, hc4, ho4⟩
  have hb4 := hb3.trans (ho4.below (Nat.le_refl _) hb3.size)
  have hv4 := Only.own hv3 ho4 hpl
  have hs4 := ho4.size
  have hm6 : m5 ≤ 5 := by have : m5 < 6 := hm5; omega
  go_wp2_with fail
  go_at_call 42
  refine (bytes_any B _ m5 _ hc4 (by omega)).mono ?_
  rintro e w5 ⟨v5, zs5, rfl, hu5, hwf5, hc5, ho5⟩
  have hb5 := hb4.trans (ho5.below (Nat.le_refl _) hb4.size)
  have hv5 := Only.own hv4 ho5 hpl
  go_wp2
  go_ret2
  obtain ⟨q, k, rfl, g1, g2, g3⟩ := hv5.own hwf
  obtain ⟨q5, k5, rfl, f1, f2, f3⟩ := hu5.own hwf5
  have hz := hb2.size
  exact ⟨_, _, _, _, _, _, _, _, rfl, g3.more (by omega) (Nat.le_refl _), hm2, g1, g2, f3.more (by omega) (Nat.le_refl _), hm6, f1, f2, hb5⟩

set_option maxHeartbeats 1000000 in
set_option maxRecDepth 100000 in
theorem draw_read_uvarint (B : Nat) (a : Option Addr) (n c : Nat) (w : World) (hb : Bytes B w a n) (hB : B ≤ w.heap.size) :
    Calls Try.prog 17 #[.slice a n c] w (RowInt 7 (-1) 2 w) := by
  obtain ⟨i0, hi0, hz0, hz1, hz2⟩ := info_parts Byt.info
  go_enter Try.func17, Try.ntmps17
  go_wp2_with fail
  go_at_call 41
  refine (new_any B a n c _ hb hB).mono ?_
  rintro e w1 ⟨rfl, hc1, hb1⟩
  go_wp2_with fail
  go_at_call 48
  refine (once_any B _ _ _ hc1 (by omega) (by omega)).mono ?_
  rintro e w2 ⟨⟨x, rfl⟩, hc2, ho2⟩
  have hb2 := hb1.trans (ho2.below (Nat.le_refl _) hb1.size)
  have hz := hb2.size
  cases x
  · have hs := OwnI.made .u8 5 (base := w2.heap.size) w2 (Nat.le_refl _)
    have hcm := hc2.below ((Below.refl w2.heap.size w2).alloc (Nat.le_refl _) (.cells #[] 5))
    have hom := (Only.refl w.heap.size w2).alloc (.cells #[] 5)
    have hpl := hc2.lt
    go_wp2_with fail
    go_at_call 43
    refine (below_any B _ _ _ hcm (by omega) (by omega)).mono ?_
    rintro e w3 ⟨⟨m, hm, rfl⟩, hc3, ho3⟩
    have hm7 : m ≤ 7 := by have : m < 8 := hm; omega
    have hs3 := Only.own hs ho3 hpl
    have ho3 := hom.trans ho3
    clear hs hcm hom
    go_wp2_with fail
    go_loopw [5, 6] (fun v i wr => ∃ (j : Nat) (zs : List Int), j ≤ m ∧ i = .int .i64 j ∧ OwnI .u8 5 w2.heap.size wr v (m - j) zs ∧ Hid (∀ z ∈ zs, (Lit.int .u8 z).wf = true) ∧ Cur 60 B w.heap.size wr ∧ Only w.heap.size w2 wr) (fun _ i _ => (intOf i).toNat)
    case atStart => exact ⟨m, [], Nat.le_refl _, rfl, by rw [Nat.sub_self]; exact hs3, (by intro z hz; cases hz), hc3, ho3⟩
    case round =>
      obtain ⟨j, zs, hj, rfl, ho, hwf, hcr, hor⟩ := hrel
      clear hs3 hc3 ho3
      have hor2 := hor.size
      by_cases hlt : 0 < j
      · go_wp2_with fail
        go_at_call 50
        refine (int_new B _ [128, 255, 0, 1, 127] _ _ _ rfl _ _ rfl hcr (by decide) (by decide)).mono ?_
        rintro e w4 ⟨⟨z, hz, rfl⟩, hc4, ho4⟩
        have hzb : 0 ≤ z ∧ z ≤ 255 := by simp at hz; omega
        clear hz
        obtain ⟨z0, z1⟩ := hzb
        have hs4 := ho4.size
        have hw1 := (Only.own ho ho4 hpl).alloc (.cells #[.int .u8 z] 5)
        go_wp2_with (at_builtin; refine wpList_append_one rfl _ _ 22 rfl w2.heap.size 5 i0 _ 1 Try.underlying22 hi0 hz0 hz1 hz2 rfl _ (m - j) zs rfl hw1 w4.heap.size 1 z rfl ?c2 ?c3 ?c4 ?c5 ?_; (case c2 => rw [World.cell?_alloc_at _ _ _ _ rfl]; rfl); (case c3 => unfold maxLen; omega); (case c4 => omega); (case c5 => simp; omega); intro v' w' ho2 hb')
        go_roundw
        case rel =>
          refine ⟨j - 1, _, by omega, by go_num, by rw [show m - (j - 1) = m - j + 1 by omega]; exact ho2, ?_, ?_, ?_⟩
          · intro y hy
            rcases List.mem_append.1 hy with hy | hy
            · exact hwf.out y hy
            · simp at hy; subst hy; exact WalkArith.wf_u8 ⟨z0, z1⟩
          · exact (hc4.below ((Below.refl _ _).alloc (Nat.le_refl _) _)).under hb' hpl
          · exact (((hor.trans ho4).alloc _).under hb' (Nat.le_refl _))
        case measure => simp [intOf]; omega
      · have hd : decide ((0 : Int) < (j : Int)) = false := by simp; omega
        have HE := Lib.hid (show m - j = m by omega)
        go_wp2_with fail
        go_at_call 43
        refine (below_any B _ _ _ hcr (by omega) (by omega)).mono ?_
        rintro e w4 ⟨⟨y, hy, rfl⟩, hc4, ho4⟩
        have hy4 : y ≤ 3 := by have : y < 4 := hy; omega
        have hw4 := Only.own ho ho4 hpl
        go_wp2
        go_ret2
        rw [HE.out] at hw4
        obtain ⟨q, k, rfl, g1, g2, g3⟩ := hw4.own hwf.out
        exact ⟨_, _, _, _, _, rfl, g3.more (by omega) (Nat.le_refl _), hm7, g1, g2, by omega, by omega, hb2.trans ((hor.trans ho4).below (Nat.le_refl _) hz)⟩
  · go_wp2_with fail
    go_at_call 42
    refine (bytes_any B _ 1 _ hc2 (by omega)).mono ?_
    rintro e w3 ⟨v, zs, rfl, hv3, hwf, hc3, ho3⟩
    have hb3 := hb2.trans (ho3.below (Nat.le_refl _) hb2.size)
    have hpl := hc2.lt
    have hs3 := ho3.size
    go_wp2_with fail
    go_at_call 49
    refine (num_any B _ _ hc3).mono ?_
    rintro e w4 ⟨⟨y, hy, rfl⟩, hc4, ho4⟩
    have hb4 := hb3.trans (ho4.below (Nat.le_refl _) hb3.size)
    have hs4 := ho4.size
    obtain ⟨q, k, rfl, g1, g2, g3⟩ := (Only.own hv3 ho4 hpl).own hwf
    have hl1 := g3.len
    have hal := (Var.app_len zs (y : Int)).2
    rw [hl1] at hal
    have HL1 := Lib.hid hl1
    clear hl1
    go_wp2_with fail
    go_at_call 26
    refine (Var.model_any _ _ (y : Int) _ _ _ _ _ g3.row (Nat.le_refl _) (by omega)).mono ?_
    rintro e w5 ⟨v5, rfl, hv5, hb5⟩
    go_wp2
    go_ret2
    obtain ⟨q5, k5, rfl, f1, f2, f3⟩ := hv5.own (Var.wf_app _ hwf)
    exact ⟨_, _, _, _, _, rfl, f3.more (by omega) (Nat.le_refl _), hal, f1, f2, by omega, by omega, hb4.trans (hb5.mono (by omega))⟩
end Go.Proofs.Ytplkkmjfglgecaa.Draw
