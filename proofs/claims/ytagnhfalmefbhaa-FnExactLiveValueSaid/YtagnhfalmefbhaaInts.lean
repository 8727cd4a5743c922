/-
  The exact laws' helpers at []int: a copy, the test for equality, marks that are written, the test that they are held.
  Conditions: the rows lie in memory that was there; a copy has fewer than 2^45 elements.
-/
import Derived.Test.YtagnhfalmefbhaaProg
import Derived.Test.YtagnhfalmefbhaaMem
import Derived.WalkKit
import Derived.Outline
import Derived.BigQuiet
import Derived.Deep.QuietTactic
import Derived.OwnWalk
namespace Go.Proofs.Ytagnhfalmefbhaa.Nts
open Go Go.RowKit Go.Proofs.Ytagnhfalmefbhaa.Mem

theorem info : (Try.prog.info? 3).map (fun i => (i.zero, i.size, i.bytes)) = some (some (.int .i64 0), 1, 8) := by kernel_rfl

def Copied (zs : List Int) (j n : Nat) : List Int := zs.take j ++ List.replicate (n - j) 0
theorem copied_zero (zs : List Int) (n : Nat) : (madeCells #[Value.int .i64 0] (n * 1)).toList = (Copied zs 0 n).map (Value.int .i64) := by
  rw [toList_madeCells_one]; simp [Copied]
theorem copied_next (zs : List Int) (j n : Nat) (h : j < n) (hz : zs.length = n) : (Copied zs j n).set j (zs.getD j 0) = Copied zs (j + 1) n := by
  have hj : j < zs.length := by omega
  unfold Copied
  have h1 : (zs.take j).length = j := by simp; omega
  rw [List.set_append_right j (zs.getD j 0) (by omega), h1, Nat.sub_self, List.take_succ_eq_append_getElem hj]
  rw [show n - j = (n - (j + 1)) + 1 by omega, List.replicate_succ, List.set_cons_zero, List.append_assoc]
  simp [List.getD_eq_getElem?_getD, hj]
theorem copied_all (zs : List Int) (n : Nat) (hz : zs.length = n) : Copied zs n n = zs := by simp [Copied, ← hz]

set_option maxHeartbeats 800000 in
set_option maxRecDepth 100000 in
theorem to_any (lo hi : Nat) (w : World) (a : Option Addr) (n c : Nat) (zs : List Int) (hr : Row .i64 lo hi w a n zs) (hh : hi ≤ w.heap.size) (hn : n ≤ 35184372088832) :
    Calls Try.prog 52 #[.slice a n c] w (Slice .i64 w.heap.size n zs w) := by
  obtain ⟨i0, hi0, hz0, hz1, hz2⟩ := info_parts info
  have HC := Lib.hid (copied_zero zs n)
  go_enter Try.func52, Try.ntmps52
  go_wp2_with (refine wpList_make_full _ rfl _ _ 25 rfl w.heap.size 3 i0 (.int .i64 0) 1 Try.underlying25 hi0 hz0 hz1 _ _ _ _ n rfl rfl rfl rfl ?c1 ?c2 ?c3 ?_; (case c1 => rw [hz2]; omega); (case c2 => unfold maxLen; omega); (case c3 => exact Nat.le_refl _); intro w1 hown hgr)
  have hb1 : Below w.heap.size w w1 := (Below.refl _ _).grown hgr (Nat.le_refl _) (fun _ h => by cases h)
  have hown1 : w1.ownsRow w.heap.size 3 1 (.slice (some ⟨w.heap.size, 0, none⟩) n n) n ((Copied zs 0 n).map (Value.int .i64)) := by rw [← HC.out]; exact hown
  clear hown hgr HC
  go_loopw [4] (fun i wr => ∃ j : Nat, j ≤ n ∧ i = .int .i64 j ∧ wr.ownsRow w.heap.size 3 1 (.slice (some ⟨w.heap.size, 0, none⟩) n n) n ((Copied zs j n).map (Value.int .i64)) ∧ Below w.heap.size w wr) (fun i _ => n - (intOf i).toNat)
  case atStart => exact ⟨0, Nat.zero_le _, rfl, hown1, hb1⟩
  case round =>
    obtain ⟨j, hj, rfl, ho, hb⟩ := hrel
    clear hown1 hb1
    by_cases hlt : j < n
    · obtain ⟨b, off, rfl, _, hbh, hc⟩ := (hr.under hb hh).cell hlt
      have hd := ho.cellAt j (by omega)
      rw [getD_map_int _ _ _ (by have := ho.1; simp at this; omega)] at hd
      have hf := ho.frozenAt j
      have hs := ho.stored j (.int .i64 (zs.getD j 0))
      rw [← List.map_set, copied_next zs j n hlt hr.len] at hs
      have HS := Lib.hid hs
      clear hs
      go_wp2
      go_roundw
      case rel => exact ⟨j + 1, by omega, by go_num, by simpa only [List.getD_eq_getElem?_getD] using HS.out.1, by simpa only [List.getD_eq_getElem?_getD] using hb.setCell (Nat.le_refl _) _⟩
      case measure => simp [intOf]; omega
    · have hd : decide ((j : Int) < (n : Int)) = false := by simp; omega
      have HE := Lib.hid (show j = n by omega)
      go_wp2
      go_ret
      rw [HE.out, copied_all zs n hr.len] at ho
      obtain ⟨a', c', hv, h1, h2, h3⟩ := Own.of_row ho hr.wf
      injection hv with hv1 _ hv2
      subst hv1 hv2
      exact ⟨_, _, rfl, h3, h1, h2, hb⟩

set_option maxHeartbeats 800000 in
set_option maxRecDepth 100000 in
theorem eq_same (l1 h1 l2 h2 : Nat) (w : World) (a b : Option Addr) (n c d : Nat) (zs : List Int) (ha : Row .i64 l1 h1 w a n zs) (hb : Row .i64 l2 h2 w b n zs) (hn : n ≤ 9223372036854775807) :
    Calls Try.prog 54 #[.slice a n c, .slice b n d] w fun e w' => e = .returned (.bool true) ∧ ∃ m, w' = w.drewN m := by
  go_enter Try.func54, Try.ntmps54
  go_wp2
  go_loopw [5] (fun i wr => ∃ j m : Nat, j ≤ n ∧ i = .int .i64 j ∧ wr = w.drewN m) (fun i _ => n - (intOf i).toNat)
  case atStart => exact ⟨0, 0, Nat.zero_le _, rfl, rfl⟩
  case round =>
    obtain ⟨j, m, hj, rfl, rfl⟩ := hrel
    by_cases hlt : j < n
    · obtain ⟨b1, o1, rfl, _, _, hc1⟩ := ha.cell hlt
      obtain ⟨b2, o2, rfl, _, _, hc2⟩ := hb.cell hlt
      go_wp2
      go_quiet (fail)
      go_wp2
      go_roundw
      case rel => exact ⟨j + 1, _, by omega, by go_num, rfl⟩
      case measure => simp [intOf]; omega
    · have hd : decide ((j : Int) < (n : Int)) = false := by simp; omega
      go_wp2
      go_ret
      exact ⟨rfl, _, rfl⟩

theorem half_next (k0 j : Nat) (zs : List Int) (h : j < zs.length) : (half .i64 k0 j zs).set j (IntKind.wrap .i64 ((k0 + j : Nat) : Int)) = half .i64 k0 (j + 1) zs := by
  unfold half
  have h1 : (marks .i64 k0 j).length = j := marks_len _ _ _
  rw [List.set_append_right j _ (by omega), h1, Nat.sub_self, List.drop_eq_getElem_cons h, List.set_cons_zero]
  unfold marks
  rw [List.range_succ, List.map_append, List.append_assoc]
  rfl
theorem half_zero (k0 : Nat) (zs : List Int) : half .i64 k0 0 zs = zs := by simp [half, marks]
theorem half_all (k0 n : Nat) (zs : List Int) (h : zs.length = n) : half .i64 k0 n zs = marks .i64 k0 n := by simp [half, ← h]
theorem half_getD (k0 j : Nat) (zs : List Int) : (half .i64 k0 j zs).getD j 0 = zs.getD j 0 := by
  unfold half
  have h1 : (marks .i64 k0 j).length = j := marks_len _ _ _
  rw [List.getD_eq_getElem?_getD, List.getElem?_append_right (by omega), h1, Nat.sub_self, List.getElem?_drop, Nat.add_zero, List.getD_eq_getElem?_getD]
theorem wf_wrap (z : Int) : (Lit.int .i64 (IntKind.wrap .i64 z)).wf = true := WalkArith.wf_i64 (by rw [IntKind.wrap_i64]; omega)
theorem marks_wf (k0 n : Nat) : ∀ z ∈ marks .i64 k0 n, (Lit.int .i64 z).wf = true := by
  intro z hz
  simp only [marks, List.mem_map] at hz
  obtain ⟨i, _, rfl⟩ := hz
  exact wf_wrap _

/-- Cells of a row that is being marked. -/
def Marked (k0 j : Nat) (zs : List Int) (b off n : Nat) (w : World) : Prop :=
  ∀ i, i < n → w.cell? ⟨b, off + i, none⟩ = some (.int .i64 ((half .i64 k0 j zs).getD i 0)) ∧ w.frozen? ⟨b, off + i, none⟩ = false

theorem marked_next (k0 j b off n : Nat) (zs : List Int) (w : World) (v : Int) (h : Marked k0 j zs b off n w) (hj : j < n) (hz : zs.length = n) (hv : v = IntKind.wrap .i64 ((k0 + j : Nat) : Int)) : Marked k0 (j + 1) zs b off n (w.setCell ⟨b, off + j, none⟩ (.int .i64 v)) := by
  subst hv
  intro i hi
  have hl : (half .i64 k0 j zs).length = n := by rw [half_len _ _ _ _ (by omega), hz]
  refine ⟨?_, by rw [World.frozen?_setCell]; exact (h i hi).2⟩
  rw [← half_next k0 j zs (by omega), List.getD_eq_getElem?_getD, List.getElem?_set, hl]
  by_cases he : j = i
  · subst he
    rw [if_pos rfl, if_pos hi]
    exact World.cell?_setCell_same _ _ _ (h j hj).1
  · rw [if_neg he, World.cell?_setCell_other _ _ _ _ (by intro h; injection h with _ h _; omega), ← List.getD_eq_getElem?_getD]
    exact (h i hi).1

set_option maxHeartbeats 800000 in
set_option maxRecDepth 100000 in
theorem mark_any (lo hi k0 : Nat) (w : World) (a : Option Addr) (n c : Nat) (zs : List Int) (h : Own .i64 lo hi w a n zs) (hn : n + k0 ≤ 9223372036854775807) :
    Calls Try.prog 63 #[.slice a n c, .int .i64 k0] w fun e w' => e = .returned (.int .i64 ((k0 + n : Nat) : Int)) ∧ Own .i64 lo hi w' a n (marks .i64 k0 n) ∧ Zone lo hi w w' := by
  rcases Nat.eq_zero_or_pos n with rfl | hpos
  · go_enter Try.func63, Try.ntmps63
    go_wp2
    refine wp_loop_rounds 1 ?_
    rw [rounds_succ]
    go_wp2
    go_ret
    exact ⟨rfl, Own.nil _ _ _ _ _, Zone.refl _ _ _⟩
  obtain ⟨b, off, rfl, hlo, hhi, hc⟩ := h.here hpos
  have hlen := Lib.hid h.len
  have hm0 : Hid (Marked k0 0 zs b off n w) := by
    intro i hi; rw [half_zero]; exact hc i hi
  clear hc h
  go_enter Try.func63, Try.ntmps63
  go_wp2
  go_loopw [1, 5] (fun k i wr => ∃ j : Nat, j ≤ n ∧ i = .int .i64 j ∧ k = .int .i64 ((k0 + j : Nat) : Int) ∧ Hid (Marked k0 j zs b off n wr) ∧ Zone lo hi w wr) (fun _ i _ => n - (intOf i).toNat)
  case atStart => exact ⟨0, Nat.zero_le _, rfl, rfl, hm0, Zone.refl _ _ _⟩
  case round =>
    obtain ⟨j, hj, rfl, rfl, hm, hz⟩ := hrel
    clear hm0
    by_cases hlt : j < n
    · obtain ⟨hd, hf⟩ := hm.out j hlt
      go_wp2
      go_roundw
      case rel => exact ⟨j + 1, by omega, by go_num, by go_num, marked_next k0 j b off n zs wr _ hm.out hlt hlen.out (by first | rfl | (rw [IntKind.wrap_i64]; omega)), hz.setCell ⟨hlo, hhi⟩ _⟩
      case measure => simp [intOf]; omega
    · have hd : decide ((j : Int) < (n : Int)) = false := by simp; omega
      have HE := Lib.hid (show j = n by omega)
      go_wp2
      go_ret
      have h1 := hm.out
      rw [HE.out] at h1
      refine ⟨by rw [HE.out]; rfl, ⟨marks_len _ _ _, marks_wf _ _, fun _ => ⟨b, off, rfl, hlo, hhi, fun i hi => ?_⟩⟩, hz⟩
      have h2 := h1 i hi
      rw [half_all k0 n zs hlen.out] at h2
      exact h2

end Go.Proofs.Ytagnhfalmefbhaa.Nts
