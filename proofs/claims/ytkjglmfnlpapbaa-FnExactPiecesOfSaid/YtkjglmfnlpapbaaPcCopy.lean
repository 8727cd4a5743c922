/-
  The exact laws' helper at a slice of pieces: a copy.
  Conditions: the pieces lie in memory; in all fewer than 2^40 numbers.
-/
import Derived.Test.YtkjglmfnlpapbaaPcTo
import Derived.Test.YtkjglmfnlpapbaaPcbuf
namespace Go.Proofs.Ytkjglmfnlpapbaa.Pieces
open Go Go.RowKit Go.Proofs.Ytkjglmfnlpapbaa.Mem Go.Proofs.Ytkjglmfnlpapbaa.Adr Go.Proofs.Ytkjglmfnlpapbaa.Res

theorem info3 : (Try.prog.info? 36).map (fun i => (i.zero, i.size, i.bytes)) = some (some (.agg #[.int .i64 0, .int .i64 0, .slice none 0 0]), 3, 40) := by kernel_rfl

theorem body_room {l : List Pc} {i : Nat} (h : i < l.length) : (pc l i).zs.length ≤ room l := by
  have h1 := bodies_take l i h
  have h2 := bodies_le l (i + 1)
  have h3 := room_eq l
  omega
theorem filled_none {T : TypeId} {b n : Nat} {l : List Pc} {w : World} {xs : List Value} (h : w.ownsRow b T 3 (.slice (some ⟨b, 0, none⟩) n n) n xs) : Filled b n l 0 w := by
  refine ⟨(h.lt b rfl).2, ⟨fun _ => noBody, fun i hi => absurd hi (by omega), fun i hi => absurd hi (by omega), fun i j hi => absurd hi (by omega)⟩, fun x hx => ⟨?_, h.frozenAt _⟩⟩
  rw [h.cellAt x hx]
  exact ⟨_, List.getElem?_eq_getElem (by rw [h.1]; exact hx)⟩

set_option maxHeartbeats 1600000 in
set_option maxRecDepth 100000 in
theorem to_pieces (lo hi : Nat) (w : World) (a : Option Addr) (n c : Nat) (l : List Pc) (hr : CRow lo hi w a n l) (hh : hi ≤ w.heap.size) (hm : room l ≤ 1099511627776) :
    Calls Try.prog 25 #[.slice a n c] w (CSlice w.heap.size n l w) := by
  obtain ⟨i0, hi0, hz0, hz1, hz2⟩ := info_parts info3
  have hlen := hr.len
  have hnm : n ≤ 1099511627776 := by have := room_eq l; omega
  have HM := Lib.hid hm
  have HL := Lib.hid hlen
  clear hm hlen
  go_enter Try.func25, Try.ntmps25
  go_wp2_with (refine wpList_make_full _ rfl _ _ 27 rfl w.heap.size 36 i0 (.agg #[.int .i64 0, .int .i64 0, .slice none 0 0]) 3 Try.underlying27 hi0 hz0 hz1 _ _ _ _ n rfl rfl rfl rfl ?c1 ?c2 ?c3 ?_; (case c1 => rw [hz2]; omega); (case c2 => unfold maxLen; omega); (case c3 => exact Nat.le_refl _); intro w1 hown hgr)
  have hb1 : Below w.heap.size w w1 := (Below.refl _ _).grown hgr (Nat.le_refl _) (fun _ h => by cases h)
  have hf1 : Filled w.heap.size n l 0 w1 := filled_none hown
  clear hown hgr
  go_loopw [4] (fun i wr => ∃ j : Nat, j ≤ n ∧ i = .int .i64 j ∧ Filled w.heap.size n l j wr ∧ Below w.heap.size w wr) (fun i _ => n - (intOf i).toNat)
  case atStart => exact ⟨0, Nat.zero_le _, rfl, hf1, hb1⟩
  case round =>
    obtain ⟨j, hj, rfl, hf, hb⟩ := hrel
    clear hf1 hb1
    by_cases hlt : j < n
    · obtain ⟨b, off, A, cc, rfl, _, _, hc, hla, _⟩ := (hr.under hb hh).at hlt
      have hbs := hb.size
      have HB := Lib.hid (body_room (l := l) (i := j) (by have := HL.out; omega))
      have hT := fun w1 hh1 => to_piece lo hi (pc l j).f (pc l j).m w1 A (pc l j).zs.length cc (pc l j).zs hh1
      obtain ⟨c0, c1, c2⟩ := hc
      go_wp2_with fail
      go_at_call 39
      refine (hT _ (hla.row) (Nat.le_trans hh hbs) (by have := HB.out; have := HM.out; omega)).mono ?_
      rintro e w2 ⟨A2, k2, rfl, hO, hnc, hcm, hb2⟩
      have hf2 := hf.below hb2
      have hf3 := hf.next hb2 hO hnc hcm hlt
      have hb3 := hb.trans (hb2.mono hbs)
      clear hf hT c0 c1 c2 hla hO
      obtain ⟨⟨v0, d0⟩, f0⟩ := hf2.rest (j * 3) (by omega)
      obtain ⟨⟨v1, d1⟩, f1⟩ := hf2.rest (j * 3 + 1) (by omega)
      obtain ⟨⟨v2, d2⟩, f2⟩ := hf2.rest (j * 3 + 2) (by omega)
      go_wp2
      go_roundw
      case rel => exact ⟨j + 1, by omega, by go_num, hf3, put3_below hb3 _ _ _ _ _ _ (Nat.le_refl _)⟩
      case measure => simp [intOf]; omega
    · have hd : decide ((j : Int) < (n : Int)) = false := by simp; omega
      have HE := Lib.hid (show j = n by omega)
      go_wp2
      go_ret
      have h1 := hf
      rw [HE.out] at h1
      exact ⟨_, _, rfl, (h1.own HL.out hr.wf), Nat.le_refl _, by unfold maxLen; omega, hb⟩
end Go.Proofs.Ytkjglmfnlpapbaa.Pieces
