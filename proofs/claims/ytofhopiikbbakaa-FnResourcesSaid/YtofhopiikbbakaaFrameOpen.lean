/-
  The library's table of powers of ten, left open: its third place holds some number, in every world of the row's shape.
  Conditions: none.
-/
import Derived.Test.YtofhopiikbbakaaRows
import Derived.Test.YtofhopiikbbakaaFmtOpen
import Derived.HandedShaped
namespace Go.Proofs.Ytofhopiikbbakaa.FrameOpen
open Go Go.Proofs.Ytofhopiikbbakaa.Fmo

set_option maxRecDepth 100000 in
theorem at2_of_shape {w : World} (h : w.ShapedOpen Try.prog) : ∃ x, At2 x w := by
  obtain ⟨cs, hh, hs, hr⟩ := h.1 1 (Array.replicate 20 (.int .u64 0)) 126 (of_decide_eq_true (by kernel_rfl)) (by kernel_rfl)
  obtain ⟨ts, hts, _, hall⟩ := hr (by kernel_rfl)
  have h2 : 2 < cs.size := by rw [hs]; simp
  obtain ⟨u, hu, hok⟩ := hall 2 cs[2] (by simp [h2])
  have hc : Try.prog.cellTypes Try.prog.depth 126 = some (List.replicate 20 119) := by kernel_rfl
  rw [hc] at hts
  injection hts with hts
  subst hts
  have hu2 : u = 119 := by simpa using hu.symm
  subst hu2
  unfold Cell.ok at hok
  rw [Try.underlying119] at hok
  cases hv : cs[2] with
  | int k' n =>
    rw [hv] at hok
    have hk : k' = .u64 := hok.1
    subst hk
    exact ⟨n, by simp [At2, World.cell?, hh, h2, hv]⟩
  | _ => rw [hv] at hok; exact hok.elim
end Go.Proofs.Ytofhopiikbbakaa.FrameOpen
