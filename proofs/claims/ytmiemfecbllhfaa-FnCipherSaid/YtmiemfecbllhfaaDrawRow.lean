/-
  The draw of a row of bytes; a byte of the input or its substitute.
  Conditions: the bytes lie below the cursor's block.
-/
import Derived.Test.YtmiemfecbllhfaaDraw
import Derived.Test.YtmiemfecbllhfaaBytes
namespace Go.Proofs.Ytmiemfecbllhfaa.Draw
open Go Go.RowKit Go.Proofs.Ytmiemfecbllhfaa.Mem
set_option linter.unusedVariables false

theorem Only.own {p base n : Nat} {k : IntKind} {e : TypeId} {w w' : World} {v : Value} {zs : List Int} (h : OwnI k e base w v n zs) (ho : Only p w w') (hp : p < base) : OwnI k e base w' v n zs :=
  World.ownsRow.kept h (row := some p) ⟨ho.os, ho.tape, ho.output, ho.size, fun i hi hne => ho.block i hi (fun e => hne (by rw [e]))⟩ (by
    by_cases hv : v.ownBlock = some p
    · have := (World.ownsRow.lt h p hv).1; omega
    · exact .inr hv)
theorem Only.under {p B : Nat} {w w1 w2 : World} (h : Only p w w1) (hb : Below B w1 w2) (hB : w.heap.size ≤ B) : Only p w w2 :=
  ⟨hb.os.trans h.os, hb.tape.trans h.tape, hb.output.trans h.output, Nat.le_trans h.size hb.size, fun i hi hp => (hb.block i (by omega)).trans (h.block i hi hp)⟩
theorem Cur.under {T B p C : Nat} {w w' : World} (h : Cur T B p w) (hb : Below C w w') (hp : p < C) : Cur T B p w' := by
  obtain ⟨hBp, a, n, c, i, hh, h0, hi, hby⟩ := h
  refine ⟨hBp, a, n, c, i, hh, (hb.block p hp).trans h0, hi, hby.1, fun j hj => ?_⟩
  obtain ⟨b, off, x, ha, hB, hx, hc⟩ := hby.2 j hj
  exact ⟨b, off, x, ha, hB, hx, by rw [Draw.cell_of_heap (hb.block b (by omega))]; exact hc⟩

/-- A row of so many bytes that the call has made; the cursor p has moved. -/
def Rolled (T B p n : Nat) (w : World) (e : Ending) (w' : World) : Prop :=
  ∃ (v : Value) (zs : List Int), e = .returned v ∧ OwnI .u8 5 w.heap.size w' v n zs ∧ (∀ z ∈ zs, (Lit.int .u8 z).wf = true) ∧ Cur T B p w' ∧ Only p w w'

set_option maxHeartbeats 1000000 in
set_option maxRecDepth 100000 in
theorem bytes_any (B p n : Nat) (w : World) (hc : Cur 62 B p w) (hn : n ≤ 1000000) :
    Calls Try.prog 46 #[.pointer (some ⟨p, 0, none⟩), .int .i64 n] w (Rolled 62 B p n w) := by
  obtain ⟨i0, hi0, hz0, hz1, hz2⟩ := info_parts Byt.info
  have hs := OwnI.made .u8 5 (base := w.heap.size) w (Nat.le_refl _)
  have hc0 := hc.below ((Below.refl w.heap.size w).alloc (Nat.le_refl _) (.cells #[] 5))
  have ho0 := (Only.refl p w).alloc (.cells #[] 5)
  have hpl := hc.lt
  go_enter Try.func46, Try.ntmps46
  go_wp2
  go_loopw [5, 6] (fun v i wr => ∃ (j : Nat) (zs : List Int), j ≤ n ∧ i = .int .i64 j ∧ OwnI .u8 5 w.heap.size wr v j zs ∧ Hid (∀ z ∈ zs, (Lit.int .u8 z).wf = true) ∧ Cur 62 B p wr ∧ Only p w wr) (fun _ i _ => n - (intOf i).toNat)
  case atStart => exact ⟨0, [], Nat.zero_le _, rfl, hs, (by intro z hz; cases hz), hc0, ho0⟩
  case round =>
    obtain ⟨j, zs, hj, rfl, ho, hwf, hcr, hor⟩ := hrel
    clear hs hc0 ho0
    have hsz := hor.size
    by_cases hlt : j < n
    · go_wp2_with fail
      go_at_call 60
      refine (byte_any B p _ hcr).mono ?_
      rintro e w1 ⟨⟨x, hx, rfl⟩, hc1, ho1⟩
      have hs1 := ho1.size
      have hw1 := (Only.own ho ho1 hpl).alloc (.cells #[.int .u8 (x : Int)] 5)
      go_wp2_with (at_builtin; refine wpList_append_one rfl _ _ 22 rfl w.heap.size 5 i0 _ 1 Try.underlying22 hi0 hz0 hz1 hz2 rfl _ j zs rfl hw1 w1.heap.size 1 (x : Int) rfl ?c2 ?c3 ?c4 ?c5 ?_; (case c2 => rw [World.cell?_alloc_at _ _ _ _ rfl]; rfl); (case c3 => unfold maxLen; omega); (case c4 => omega); (case c5 => simp; omega); intro v' w' ho2 hb')
      go_roundw
      case rel =>
        refine ⟨j + 1, _, by omega, by go_num, ho2, ?_, ?_, ?_⟩
        · intro z hz
          rcases List.mem_append.1 hz with hz | hz
          · exact hwf.out z hz
          · simp at hz; subst hz; exact WalkArith.wf_u8 (by omega)
        · exact (hc1.below ((Below.refl _ _).alloc (Nat.le_refl _) _)).under hb' hpl
        · exact (((hor.trans ho1).alloc _).under hb' (Nat.le_refl _))
      case measure => simp [intOf]; omega
    · have hd : decide ((j : Int) < (n : Int)) = false := by simp; omega
      have HE := Lib.hid (show j = n by omega)
      go_wp2
      go_ret
      rw [HE.out] at ho
      exact ⟨_, _, rfl, ho, hwf.out, hcr, hor⟩

set_option maxRecDepth 100000 in
theorem at_any (B : Nat) (a : Option Addr) (n c i : Nat) (w : World) (hb : Bytes B w a n) (hi : i ≤ 1000000) (hn : n ≤ 1048576) :
    Calls Try.prog 21 #[.slice a n c, .int .i64 i] w fun e w' => IsNat 256 e ∧ w = w' := by
  by_cases h : i < n
  · obtain ⟨b, off, x, rfl, _, hx, hc⟩ := hb.2 i h
    go_enter Try.func21, Try.ntmps21
    go_wp2
    go_ret
    exact ⟨⟨x, hx, rfl⟩, rfl⟩
  · have hd : decide ((i : Int) < (n : Int)) = false := by simp; omega
    go_enter Try.func21, Try.ntmps21
    go_wp2
    go_ret
    exact ⟨isNat_mod _, rfl⟩
theorem bytes_of_row {lo hi B n : Nat} {w : World} {a : Option Addr} {zs : List Int} (h : Row .u8 lo hi w a n zs) (hh : hi ≤ B) (hn : n ≤ 9223372036854775807) : Bytes B w a n :=
  ⟨hn, fun j hj => by
    obtain ⟨b, off, ha, _, hb, hc⟩ := h.cell hj
    have hz := bounds_u8 (h.wf_at hj)
    exact ⟨b, off, (zs.getD j 0).toNat, ha, by omega, by omega, by rw [hc]; congr 2; omega⟩⟩
end Go.Proofs.Ytmiemfecbllhfaa.Draw
