/-
  The model's copy of a slice of parts.
  Conditions: the parts lie in memory, in all at most 2^20 numbers.
-/
import Derived.Test.YtedjclnojocjkaaGreatDoorAppend
import Derived.Test.YtedjclnojocjkaaGreatDoorPtsEq
import Derived.Test.YtedjclnojocjkaaGreatDoorCopied
import Derived.Deep.CutBlock
namespace Go.Proofs.YtedjclnojocjkaaGreatDoor.Parts
open Go Go.RowKit Go.Proofs.YtedjclnojocjkaaGreatDoor.Mem Go.Proofs.YtedjclnojocjkaaGreatDoor.Adr Go.Proofs.YtedjclnojocjkaaGreatDoor.Res

/-- What a call hands back: a list of parts of its own, that may be appended to. -/
def PList (lo n : Nat) (l : List Prt) (w : World) (e : Ending) (w' : World) : Prop :=
  ∃ v G, e = .returned v ∧ PBuf 62 lo w'.heap.size w' v n l G ∧ Below lo w w'
theorem PList.slice {lo n : Nat} {l : List Prt} {w w' : World} {e : Ending} (h : PList lo n l w e w') : PSlice lo n l w e w' := by
  obtain ⟨v, G, rfl, h1, h2⟩ := h
  obtain ⟨a, c, rfl, h3, h4, h5⟩ := h1.shape
  exact ⟨a, c, rfl, h5, h3, h4, h2⟩
theorem take_next {l : List Prt} {j : Nat} (h : j < l.length) : l.take (j + 1) = l.take j ++ [pt l j] := by
  rw [List.take_succ_eq_append_getElem h]
  simp [pt, List.getD_eq_getElem?_getD, h]

set_option maxHeartbeats 4000000 in
set_option maxRecDepth 100000 in
theorem copy_spec (lo hi : Nat) (w : World) (a : Option Addr) (n c : Nat) (l : List Prt) (hr : PRow lo hi w a n l) (hh : hi ≤ w.heap.size) (hm : room l ≤ 1048576) :
    Calls Tryz.prog 57 #[.slice a n c] w (PList w.heap.size n l w) := by
  have hq := room_eq l
  have hlen := hr.len
  have hn : n ≤ 1048576 := by omega
  have hz : ∀ i, i < n → (pt l i).zs.length ≤ 1048576 := fun i hi => by
    have h3 := bodies_take l i (by omega)
    have h4 := bodies_le l (i + 1)
    omega
  have HL := Lib.hid hlen
  have h0 := PBuf.made 62 w.heap.size w (Nat.le_refl _)
  have hb0 : Below w.heap.size w (w.alloc (.cells #[] 62)) := by repeat' (first | exact Below.refl _ _ | assumption | refine Below.setCell ?_ ?_ _ | refine Below.alloc ?_ ?_ _ | refine Adr.below_drewN ?_ _ | refine Below.drew ?_ | exact Nat.le_refl _ | omega | (dsimp only; omega) | refine Adr.le_alloc ?_ | refine Adr.le_set ?_ | refine Adr.le_drewN ?_ | refine Adr.le_drew ?_)
  have hs0 : (w.alloc (.cells #[] 62)).heap.size = w.heap.size + 1 := size_alloc _ _
  rw [← hs0] at h0
  clear hlen hm hq
  go_enter Tryz.func57, Tryz.ntmps57
  go_wp2
  go_loopw [3, 4] (fun v i wr => ∃ (j : Nat) (G : List Body), j ≤ n ∧ i = .int .i64 j ∧ PBuf 62 w.heap.size wr.heap.size wr v j (l.take j) G ∧ Below w.heap.size w wr) (fun _ i _ => n - (intOf i).toNat)
  case atStart => exact ⟨0, [], Nat.zero_le _, rfl, by simpa using h0, hb0⟩
  case round =>
    obtain ⟨j, G, hj, rfl, hv, hb⟩ := hrel
    clear h0 hb0 hs0
    by_cases hlt : j < n
    · obtain ⟨b, off, A, cc, rfl, _, hbhi, q, hla, wP⟩ := (hr.under hb hh).at hlt
      have hzj := hz j hlt
      have HT := Lib.hid (take_next (l := l) (j := j) (by have := HL.out; omega))
      obtain ⟨P, hP⟩ : ∃ P, pt l j = P := ⟨_, rfl⟩
      rw [hP] at q hla wP hzj HT
      have hbs := hb.size
      have hC := fun W r => Draw.copy5 lo hi P.k P.h P.p P.q W A P.zs.length cc P.zs r hzj
      have rd : Row .i64 lo hi wr.drew A P.zs.length P.zs := hla.row.drewN 1
      have u : Cells7 wr.drew b (off + j * 7) P A cc := q.keep rfl
      have bB := hb.drew
      obtain ⟨va, vc, rfl⟩ := hv.slice
      have hvd := hv.keep (w' := wr.drew) (fun _ _ _ _ => rfl)
      have hbb : b < w.heap.size := by omega
      have g := u.all
      obtain ⟨x0, x1, x2, x3, x4, x5, x6⟩ := q.all
      clear hr hv hb hla q
      go_upto_region 5 with fail
      go_region_held3 (fun w' => (w').cell? ⟨b, off + j * 7, none⟩ = some (.int .i64 (P).d) ∧ (w').cell? ⟨b, off + j * 7 + 1, none⟩ = some (.int .i64 (P).k) ∧ (w').cell? ⟨b, off + j * 7 + 2, none⟩ = some (.slice (A) (P).zs.length (cc)) ∧ (w').cell? ⟨b, off + j * 7 + 3, none⟩ = some (.int .i64 (P).h) ∧ (w').cell? ⟨b, off + j * 7 + 4, none⟩ = some (.int .i64 (P).p) ∧ (w').cell? ⟨b, off + j * 7 + 5, none⟩ = some (.int .i64 (P).q) ∧ (w').cell? ⟨b, off + j * 7 + 6, none⟩ = some (.int .i64 (P).u))
        (first | (with_reducible exact s9) | (with_reducible exact s8) | (with_reducible exact g) | assumption | go_keep)
        (first
        | (go_at_call 46; refine (hC _ rd).mono ?_; rintro e w9 ⟨a', c', rfl, hO, hnc, hcm, hb9⟩; have hs9 := hb9.size; rw [size_drew] at hs9 hO; have u9 := u.below hb9; have s9 := u9.all; have hA : Below w9.heap.size w9 (w9.alloc (.cells #[.int .i64 P.d, .int .i64 P.k, .slice a' P.zs.length c', .int .i64 P.h, .int .i64 P.p, .int .i64 P.q, .int .i64 P.u] 62)) := (Below.refl _ _).alloc (Nat.le_refl _) _; have uA := u9.below hA; have s8 := uA.all; have hvA := (hvd.under hb9 (Nat.le_refl _)).under hA hs9; have hOA := (hO.below hA).more (Nat.le_refl _) hA.size; have sA := Sept.new 62 (.int .i64 P.d) (.int .i64 P.k) (.slice a' P.zs.length c') (.int .i64 P.h) (.int .i64 P.p) (.int .i64 P.q) (.int .i64 P.u) w9; have bA := (bB.trans (hb9.mono bB.size)).trans (hA.mono (by omega)); have hsA := hA.size)
        | (refine step_append_parts (M := wr.heap.size) rfl _ _ rfl hvA (News.one sA hOA hnc hcm wP) ?c1 ?c2 ?c3 rfl rfl ?_; (case c1 => exact hbs); (case c2 => omega); (case c3 => omega); intro v' w5 hv5 hb5 _; have s9 := (uA.keep (hb5.block _ hbb)).all; have bC := bA.trans hb5))
      all_goals
        rw [← HT.out] at hv5
        obtain ⟨va', vc', rfl⟩ := hv5.slice
        go_wp2
        go_roundw
        case rel => exact ⟨j + 1, _, by omega, by go_num, hv5, bC⟩
        case measure => simp [intOf]; omega
    · have hd : decide ((j : Int) < (n : Int)) = false := by simp; omega
      have HE := Lib.hid (show j = n by omega)
      obtain ⟨va, vc, rfl⟩ := hv.slice
      go_wp2
      go_ret
      rw [HE.out, ← HL.out, List.take_length, HL.out] at hv
      exact ⟨_, G, rfl, by rw [HE.out]; exact hv, hb⟩
end Go.Proofs.YtedjclnojocjkaaGreatDoor.Parts
