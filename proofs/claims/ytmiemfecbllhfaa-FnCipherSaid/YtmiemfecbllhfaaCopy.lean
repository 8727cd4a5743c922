/-
  The copies of byte slices that the program makes.
  Conditions: the row lies in memory that was there and is shorter than 2^45.
-/
import Derived.Test.YtmiemfecbllhfaaBytes
namespace Go.Proofs.Ytmiemfecbllhfaa.Var
open Go Go.RowKit Go.Proofs.Ytmiemfecbllhfaa.Mem

/-- What a call that hands back a row of the call's own has done. -/
def Rowed (base : Nat) (n : Nat) (zs : List Int) (w : World) (e : Ending) (w' : World) : Prop :=
  ∃ v, e = .returned v ∧ OwnI .u8 5 base w' v n zs ∧ Below base w w'

set_option maxRecDepth 100000 in
theorem copy_any (lo hi : Nat) (w : World) (a : Option Addr) (n c : Nat) (zs : List Int) (hr : Row .u8 lo hi w a n zs) (hh : hi ≤ w.heap.size) (hn : n ≤ 35184372088832) :
    Calls Try.prog 49 #[.slice a n c] w (Rowed w.heap.size n zs w) := by
  obtain ⟨i0, hi0, hz0, hz1, hz2⟩ := info_parts Byt.info
  have hs := OwnI.made .u8 5 (base := w.heap.size) w (Nat.le_refl _)
  have hb := (Below.refl w.heap.size w).alloc (Nat.le_refl _) (.cells #[] 5)
  have hr1 := hr.under hb hh
  go_enter Try.func49, Try.ntmps49
  go_wp2_with (at_builtin; refine wpList_append_row rfl _ _ 22 rfl w.heap.size 5 i0 _ 1 Try.underlying22 hi0 hz0 hz1 hz2 rfl _ 0 [] rfl hs lo hi a n c zs rfl hr1 (by unfold maxLen; omega) (by omega) (by simp) ?_; intro v' w' ho hb')
  go_ret
  rw [List.nil_append, Nat.zero_add] at ho
  exact ⟨v', rfl, ho, hb.trans hb'⟩

theorem Rowed.slice {base n : Nat} {zs : List Int} {w : World} {e : Ending} {w' : World} (h : Rowed base n zs w e w') (hwf : ∀ z ∈ zs, (Lit.int .u8 z).wf = true) : Slice .u8 base n zs w e w' := by
  obtain ⟨v, rfl, ho, hb⟩ := h
  obtain ⟨a, c, rfl, h1, h2, h3⟩ := ho.own hwf
  exact ⟨a, c, rfl, h3, h1, h2, hb⟩
end Go.Proofs.Ytmiemfecbllhfaa.Var
