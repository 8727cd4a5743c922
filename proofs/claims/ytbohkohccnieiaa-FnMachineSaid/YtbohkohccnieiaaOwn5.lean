/-
  Rows of the call's own beside stores into other blocks.
  Conditions: none; nothing of the program stands here.
-/
import Derived.Test.YtbohkohccnieiaaAdr
import Derived.Test.YtbohkohccnieiaaMem
namespace Go.Proofs.Ytbohkohccnieiaa.Draw
open Go Go.RowKit Go.Proofs.Ytbohkohccnieiaa.Mem Go.Proofs.Ytbohkohccnieiaa.Adr

theorem ownI_shape {k : IntKind} {e : TypeId} {base n : Nat} {w : World} {v : Value} {zs : List Int} (h : OwnI k e base w v n zs) : ∃ a c, v = .slice a n c := by
  rcases h.2 with ⟨rfl, rfl⟩ | ⟨g, cap, cur, rfl, _⟩
  · exact ⟨none, 0, rfl⟩
  · exact ⟨_, _, rfl⟩
theorem ownI_more {k : IntKind} {e : TypeId} {base base' n : Nat} {w : World} {v : Value} {zs : List Int} (h : OwnI k e base w v n zs) (hle : base' ≤ base) : OwnI k e base' w v n zs :=
  ⟨h.1, h.2.imp id (fun ⟨g, cap, cur, hv, hb, rest⟩ => ⟨g, cap, cur, hv, Nat.le_trans hle hb, rest⟩)⟩
theorem ownI_old {k : IntKind} {e : TypeId} {base n : Nat} {w : World} {v : Value} {zs : List Int} (h : OwnI k e base w v n zs) {a : Addr} (ha : a.block < base) (u : Value) : OwnI k e base (w.setCell a u) v n zs :=
  World.ownsRow.kept h (row := some a.block) ⟨rfl, rfl, rfl, by rw [size_set]; exact Nat.le_refl _, fun i _ hne => heap_setCell_other w a i u (fun e => hne (by rw [e]))⟩ (by
    by_cases hv : v.ownBlock = some a.block
    · have := (World.ownsRow.lt h a.block hv).1; omega
    · exact .inr hv)
theorem own5 {R : Nat} {w2 : World} {k : IntKind} {e : TypeId} {base n : Nat} {v : Value} {zs : List Int} (h : OwnI k e base w2 v n zs) (hR : R < base) (y0 y1 y2 y3 y4 : Value) :
    OwnI k e base (((((w2.setCell ⟨R, 0, none⟩ y0).setCell ⟨R, 1, none⟩ y1).setCell ⟨R, 2, none⟩ y2).setCell ⟨R, 3, none⟩ y3).setCell ⟨R, 4, none⟩ y4) v n zs :=
  ownI_old (ownI_old (ownI_old (ownI_old (ownI_old h (a := ⟨R, 0, none⟩) hR y0) (a := ⟨R, 1, none⟩) hR y1) (a := ⟨R, 2, none⟩) hR y2) (a := ⟨R, 3, none⟩) hR y3) (a := ⟨R, 4, none⟩) hR y4
end Go.Proofs.Ytbohkohccnieiaa.Draw
