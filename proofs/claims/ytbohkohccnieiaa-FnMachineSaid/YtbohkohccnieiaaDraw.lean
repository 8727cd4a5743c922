/-
  The cursor over the bytes of a draw: it is made, read and turned; each call hands back some number in its range.
  Conditions: the bytes lie below the cursor's block.
-/
import Derived.Test.YtbohkohccnieiaaProg
import Derived.Test.YtbohkohccnieiaaDrawMath
import Derived.WalkKit
import Derived.Outline
import Derived.BigQuiet
import Derived.Deep.QuietTactic
import Derived.OwnWalk
import Derived.Laws.IdiomStrings
namespace Go.Proofs.Ytbohkohccnieiaa.Draw
open Go Go.RowKit

set_option maxRecDepth 100000 in
theorem new_any (B : Nat) (a : Option Addr) (n c : Nat) (w : World) (hb : Bytes B w a n) (hB : B ≤ w.heap.size) :
    Calls Try.prog 38 #[.slice a n c] w fun e w' => e = .returned (.pointer (some ⟨w.heap.size, 0, none⟩)) ∧ Cur 89 B w.heap.size w' ∧ Below w.heap.size w w' := by
  have hn := hb.1
  go_enter Try.func38, Try.ntmps38
  go_wp2
  go_loop [3, 4] (fun h i => ∃ (k : Nat) (x : Int), k ≤ n ∧ i = .int .i64 k ∧ h = .int .i64 x) (fun _ i => n - (intOf i).toNat)
  case atStart => exact ⟨0, _, Nat.zero_le _, rfl, rfl⟩
  case round =>
    obtain ⟨k, x, hk, rfl, rfl⟩ := hrel
    by_cases hlt : k < n
    · by_cases h4 : k < 4000
      · obtain ⟨b, off, y, rfl, _hbB, hy, hc⟩ := hb.2 k hlt
        go_wp2
        go_round
        case rel => exact ⟨k + 1, _, by omega, by go_num, rfl⟩
        case measure => simp [intOf]; omega
      · have h4' : decide ((k : Int) < 4000) = false := by simp; omega
        go_wp2
        go_ret
        exact ⟨rfl, ⟨hB, _, _, _, 0, _, World.block_alloc_here _ _, Nat.zero_le _, hb.below ((Below.refl _ _).alloc (Nat.le_refl _) _) ⟩, (Below.refl _ _).alloc (Nat.le_refl _) _⟩
    · have hd : decide ((k : Int) < (n : Int)) = false := by simp; omega
      go_wp2
      go_ret
      exact ⟨rfl, ⟨hB, _, _, _, 0, _, World.block_alloc_here _ _, Nat.zero_le _, hb.below ((Below.refl _ _).alloc (Nat.le_refl _) _) ⟩, (Below.refl _ _).alloc (Nat.le_refl _) _⟩

set_option maxRecDepth 100000 in
theorem byte_any (B p : Nat) (w : World) (hc : Cur 89 B p w) :
    Calls Try.prog 84 #[.pointer (some ⟨p, 0, none⟩)] w fun e w' => IsNat 256 e ∧ Cur 89 B p w' ∧ Only p w w' := by
  obtain ⟨hBp, a, n, c, i, h, hb, hi, hby⟩ := hc
  have c0 : w.cell? ⟨p, 0, none⟩ = some (.slice a n c) := by simp [World.cell?, hb]
  have c1 : w.cell? ⟨p, 1, none⟩ = some (.int .i64 i) := by simp [World.cell?, hb]
  have c2 : w.cell? ⟨p, 2, none⟩ = some (.int .i64 h) := by simp [World.cell?, hb]
  have f0 := frozen_of_row w p 0 _ _ hb
  have f1 := frozen_of_row w p 1 _ _ hb
  have f2 := frozen_of_row w p 2 _ _ hb
  have hn := hby.1
  have ha := and255
  by_cases hin : i < n
  · obtain ⟨b, off, y, rfl, hbB, hy, hcb⟩ := hby.2 i hin
    have hne : ¬ b = p := by omega
    go_enter Try.func84, Try.ntmps84
    go_wp2
    go_quiet (fail)
    go_wp2
    go_quiet (fail)
    go_wp2
    go_quiet (fail)
    go_wp2
    go_ret
    exact ⟨isNat_mod _, ⟨hBp, _, _, _, i + 1, _, heap_setCell_same _ p 1 _ _ _ (heap_setCell_same w p 2 _ _ _ hb), by omega, hby.on (by repeat (first | exact Only.refl _ _ | apply Only.drewN | apply Only.setCell)) hBp⟩, by repeat (first | exact Only.refl _ _ | apply Only.drewN | apply Only.setCell)⟩
  · go_enter Try.func84, Try.ntmps84
    go_wp2
    go_quiet (fail)
    go_wp2
    go_quiet (fail)
    go_wp2
    go_ret
    exact ⟨isNat_mod _, ⟨hBp, _, _, _, i, _, heap_setCell_same w p 2 _ _ _ hb, hi, hby.on (by repeat (first | exact Only.refl _ _ | apply Only.drewN | apply Only.setCell)) hBp⟩, by repeat (first | exact Only.refl _ _ | apply Only.drewN | apply Only.setCell)⟩
set_option maxRecDepth 100000 in
theorem below_small (B p : Nat) (n : Int) (w : World) (hc : Cur 89 B p w) (h0 : 0 < n) (h1 : n ≤ 256) :
    Calls Try.prog 71 #[.pointer (some ⟨p, 0, none⟩), .int .i64 n] w fun e w' => IsNat n.toNat e ∧ Cur 89 B p w' ∧ Only p w w' := by
  go_enter Try.func71, Try.ntmps71
  go_wp2_with (go_at_call 84; refine (byte_any B p _ hc).mono ?_; rintro e w1 ⟨⟨x, hx, rfl⟩, hc1, ho1⟩)
  go_ret
  exact ⟨isNat_emod _ _ h0, hc1, ho1⟩

set_option maxRecDepth 100000 in
theorem below_great (B p : Nat) (n : Int) (w : World) (hc : Cur 89 B p w) (h0 : 256 < n) (h1 : n ≤ 9223372036854775807) :
    Calls Try.prog 71 #[.pointer (some ⟨p, 0, none⟩), .int .i64 n] w fun e w' => IsNat n.toNat e ∧ Cur 89 B p w' ∧ Only p w w' := by
  go_enter Try.func71, Try.ntmps71
  go_wp2_with (go_at_call 84; refine (byte_any B p _ hc).mono ?_; rintro e w1 ⟨⟨x, hx, rfl⟩, hc1, ho1⟩)
  go_wp2_with (go_at_call 84; refine (byte_any B p _ hc1).mono ?_; rintro e w2 ⟨⟨y, hy, rfl⟩, hc2, ho2⟩)
  go_wp2_with (go_at_call 84; refine (byte_any B p _ hc2).mono ?_; rintro e w3 ⟨⟨z, hz, rfl⟩, hc3, ho3⟩)
  go_ret
  exact ⟨isNat_emod _ _ (by omega), hc3, (ho1.trans ho2).trans ho3⟩

/-- A number below n, where n is above 0. -/
theorem below_any (B p : Nat) (n : Int) (w : World) (hc : Cur 89 B p w) (h0 : 0 < n) (h1 : n ≤ 9223372036854775807) :
    Calls Try.prog 71 #[.pointer (some ⟨p, 0, none⟩), .int .i64 n] w fun e w' => IsNat n.toNat e ∧ Cur 89 B p w' ∧ Only p w w' := by
  by_cases h : n ≤ 256
  · exact below_small B p n w hc h0 h
  · exact below_great B p n w hc (by omega) h1

set_option maxRecDepth 100000 in
theorem below_none (p : Nat) (n : Int) (w : World) (h0 : n ≤ 0) :
    Calls Try.prog 71 #[.pointer (some ⟨p, 0, none⟩), .int .i64 n] w fun e w' => e = .returned (.int .i64 0) ∧ w = w' := by
  go_enter Try.func71, Try.ntmps71
  go_wp2_with fail
  go_ret
  exact ⟨rfl, rfl⟩

set_option maxRecDepth 100000 in
theorem int_any (B p q c : Nat) (zs : List Int) (w : World) (hc : Cur 89 B p w) (hq : q ≠ p) (hz : ∀ j (h : j < zs.length), w.cell? ⟨q, j, none⟩ = some (.int .i64 zs[j])) (h0 : 0 < zs.length) (h1 : zs.length ≤ 1000) :
    Calls Try.prog 39 #[.pointer (some ⟨p, 0, none⟩), .slice (some ⟨q, 0, none⟩) zs.length c] w fun e w' => IsOf zs e ∧ Cur 89 B p w' ∧ Only p w w' := by
  go_enter Try.func39, Try.ntmps39
  go_wp2_with (go_at_call 71; refine (below_any B p zs.length _ hc (by omega) (by omega)).mono ?_; rintro e w1 ⟨⟨x, hx, rfl⟩, hc1, ho1⟩; have hx' : x < zs.length := (by omega); have hcell : w1.cell? ⟨q, x, none⟩ = some (.int .i64 zs[x]) := ho1.cell (hz x hx') hq)
  go_ret
  exact ⟨⟨zs[x], List.getElem_mem _, rfl⟩, hc1, ho1⟩

/-- The same over a list that the call has just made. -/
theorem int_new (B p : Nat) (zs : List Int) (w : World) (C : Array Value) (E : TypeId) (hC : C = (zs.map (Value.int .i64)).toArray) (n c : Nat) (hn : n = zs.length) (hc : Cur 89 B p w) (h0 : 0 < zs.length) (h1 : zs.length ≤ 1000) :
    Calls Try.prog 39 #[.pointer (some ⟨p, 0, none⟩), .slice (some ⟨w.heap.size, 0, none⟩) n c] (w.alloc (.cells C E)) fun e w' => IsOf zs e ∧ Cur 89 B p w' ∧ Only p w w' := by
  subst hn hC
  refine (int_any B p w.heap.size c zs _ (hc.below ((Below.refl _ _).alloc (Nat.le_refl _) _)) (by have := hc.lt; omega) (fun j hj => ?_) h0 h1).mono ?_
  · rw [World.cell?_alloc_mark w _ E (0, 0) j]; simp [hj]
  · rintro e w' ⟨he, hc', ho⟩; exact ⟨he, hc', ((Only.refl p w).alloc _).trans ho⟩
end Go.Proofs.Ytbohkohccnieiaa.Draw
