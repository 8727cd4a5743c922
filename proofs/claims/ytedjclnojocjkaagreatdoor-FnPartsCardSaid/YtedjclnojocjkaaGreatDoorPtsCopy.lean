/-
  The exact laws' helper at a slice of parts: a copy.
  Conditions: the parts lie in memory; in all fewer than 2^40 numbers.
-/
import Derived.Test.YtedjclnojocjkaaGreatDoorPtsTo
import Derived.Test.YtedjclnojocjkaaGreatDoorLays
namespace Go.Proofs.YtedjclnojocjkaaGreatDoor.Parts
open Go Go.RowKit Go.Proofs.YtedjclnojocjkaaGreatDoor.Mem Go.Proofs.YtedjclnojocjkaaGreatDoor.Adr Go.Proofs.YtedjclnojocjkaaGreatDoor.Res

theorem info7 : (Tryz.prog.info? 62).map (fun i => (i.zero, i.size, i.bytes)) = some (some (.agg #[.int .i64 0, .int .i64 0, .slice none 0 0, .int .i64 0, .int .i64 0, .int .i64 0, .int .i64 0]), 7, 72) := by kernel_rfl

theorem body_room {l : List Prt} {i : Nat} (h : i < l.length) : (pt l i).zs.length ≤ room l := by
  have h1 := bodies_take l i h
  have h2 := bodies_le l (i + 1)
  have h3 := room_eq l
  omega
theorem filled_none {T : TypeId} {b n : Nat} {l : List Prt} {w : World} {xs : List Value} (h : w.ownsRow b T 7 (.slice (some ⟨b, 0, none⟩) n n) n xs) : Filled b n l 0 w := by
  refine ⟨(h.lt b rfl).2, ⟨fun _ => noBody, fun i hi => absurd hi (by omega), fun i hi => absurd hi (by omega), fun i j hi => absurd hi (by omega)⟩, fun x hx => ⟨?_, h.frozenAt _⟩⟩
  rw [h.cellAt x hx]
  exact ⟨_, List.getElem?_eq_getElem (by rw [h.1]; exact hx)⟩

set_option maxHeartbeats 1600000 in
set_option maxRecDepth 100000 in
theorem to_parts (lo hi : Nat) (w : World) (a : Option Addr) (n c : Nat) (l : List Prt) (hr : PRow lo hi w a n l) (hh : hi ≤ w.heap.size) (hm : room l ≤ 1099511627776) :
    Calls Tryz.prog 23 #[.slice a n c] w (PSlice w.heap.size n l w) := by
  obtain ⟨i0, hi0, hz0, hz1, hz2⟩ := info_parts info7
  have hlen := hr.len
  have hnm : n ≤ 1099511627776 := by have := room_eq l; omega
  have HM := Lib.hid hm
  have HL := Lib.hid hlen
  clear hm hlen
  go_enter Tryz.func23, Tryz.ntmps23
  go_wp2_with (refine wpList_make_full _ rfl _ _ 24 rfl w.heap.size 62 i0 (.agg #[.int .i64 0, .int .i64 0, .slice none 0 0, .int .i64 0, .int .i64 0, .int .i64 0, .int .i64 0]) 7 Tryz.underlying24 hi0 hz0 hz1 _ _ _ _ n rfl rfl rfl rfl ?c1 ?c2 ?c3 ?_; (case c1 => rw [hz2]; omega); (case c2 => unfold maxLen; omega); (case c3 => exact Nat.le_refl _); intro w1 hown hgr)
  have hb1 : Below w.heap.size w w1 := (Below.refl _ _).grown hgr (Nat.le_refl _) (fun _ h => by cases h)
  have hf1 : Filled w.heap.size n l 0 w1 := filled_none hown
  clear hown hgr
  go_loopw [4] (fun i wr => ∃ j : Nat, j ≤ n ∧ i = .int .i64 j ∧ Filled w.heap.size n l j wr ∧ Below w.heap.size w wr) (fun i _ => n - (intOf i).toNat)
  case atStart => exact ⟨0, Nat.zero_le _, rfl, hf1, hb1⟩
  case round =>
    obtain ⟨j, hj, rfl, hf, hb⟩ := hrel
    clear hf1 hb1
    by_cases hlt : j < n
    · obtain ⟨b, off, A, cc, rfl, _, _, hc, hla, _⟩ := (hr.under hb hh).at hlt
      have hbs := hb.size
      have HB := Lib.hid (body_room (l := l) (i := j) (by have := HL.out; omega))
      have hT := fun w1 hh1 => to_part lo hi (pt l j).d (pt l j).k (pt l j).h (pt l j).p (pt l j).q (pt l j).u w1 A (pt l j).zs.length cc (pt l j).zs hh1
      obtain ⟨c0, c1, c2, c3, c4, c5, c6⟩ := hc
      go_wp2_with fail
      go_at_call 61
      refine (hT _ (hla.row) (Nat.le_trans hh hbs) (by have := HB.out; have := HM.out; omega)).mono ?_
      rintro e w2 ⟨A2, k2, rfl, hO, hnc, hcm, hb2⟩
      have hf2 := hf.below hb2
      have hf3 := hf.next hb2 hO hnc hcm hlt
      have hb3 := hb.trans (hb2.mono hbs)
      clear hf hT c0 c1 c2 c3 c4 c5 c6 hla hO
      obtain ⟨⟨v0, d0⟩, f0⟩ := hf2.rest (j * 7) (by omega)
      obtain ⟨⟨v1, d1⟩, f1⟩ := hf2.rest (j * 7 + 1) (by omega)
      obtain ⟨⟨v2, d2⟩, f2⟩ := hf2.rest (j * 7 + 2) (by omega)
      obtain ⟨⟨v3, d3⟩, f3⟩ := hf2.rest (j * 7 + 3) (by omega)
      obtain ⟨⟨v4, d4⟩, f4⟩ := hf2.rest (j * 7 + 4) (by omega)
      obtain ⟨⟨v5, d5⟩, f5⟩ := hf2.rest (j * 7 + 5) (by omega)
      obtain ⟨⟨v6, d6⟩, f6⟩ := hf2.rest (j * 7 + 6) (by omega)
      go_wp2
      go_roundw
      case rel => exact ⟨j + 1, by omega, by go_num, hf3, put7_below hb3 _ _ _ _ _ _ (Nat.le_refl _)⟩
      case measure => simp [intOf]; omega
    · have hd : decide ((j : Int) < (n : Int)) = false := by simp; omega
      have HE := Lib.hid (show j = n by omega)
      go_wp2
      go_ret
      have h1 := hf
      rw [HE.out] at h1
      exact ⟨_, _, rfl, (h1.own HL.out hr.wf), Nat.le_refl _, by unfold maxLen; omega, hb⟩
end Go.Proofs.YtedjclnojocjkaaGreatDoor.Parts
