/-
  The program's map of a site: for each address its versions, in the order of the site.
  Conditions: the versions lie in memory, with 2^20 numbers at most.
-/
import Derived.Test.YtldpgkbemgpacaaPastRow
import Derived.Carry
import Derived.Lib.AppendZeros
import Derived.OwnWalk
namespace Go.Proofs.Ytldpgkbemgpacaa.Sites
open Go Go.RowKit Go.Proofs.Ytldpgkbemgpacaa.Mem Go.Proofs.Ytldpgkbemgpacaa.Gen Go.Proofs.Ytldpgkbemgpacaa.Adr Go.Proofs.Ytldpgkbemgpacaa.Res

/-- The cells of a version. -/
def verCells (V : TVersion) (a : Option Addr) (c : Nat) : List Value := [.int .i64 V.f0.f0, .int .i64 V.f0.f1, .int .i64 V.f0.f2, .int .i64 V.f1, .int .i64 V.f2.f0, .slice a V.f2.f1.length c, .int .i64 V.f2.f2.f0, .int .i64 V.f2.f2.f1, .int .i64 V.f2.f2.f2]
theorem verCells_lie {lo hi : Nat} {w : World} {V : TVersion} {a : Option Addr} {c : Nat} (h : Lies lo hi w (ints V.f2.f1) (.slice a V.f2.f1.length c)) (w0 : (Lit.int .i64 V.f0.f0).wf = true) (w1 : (Lit.int .i64 V.f0.f1).wf = true) (w2 : (Lit.int .i64 V.f0.f2).wf = true) (w3 : (Lit.int .i64 V.f1).wf = true) (w4 : (Lit.int .i64 V.f2.f0).wf = true) (w6 : (Lit.int .i64 V.f2.f2.f0).wf = true) (w7 : (Lit.int .i64 V.f2.f2.f1).wf = true) (w8 : (Lit.int .i64 V.f2.f2.f2).wf = true) :
    ∀ x, x < 9 → ∃ u, (verCells V a c)[x]? = some u ∧ Lies lo hi w (V.c x) u := by
  intro x hx
  match x, hx with
  | 0, _ => exact ⟨_, rfl, rfl, w0⟩
  | 1, _ => exact ⟨_, rfl, rfl, w1⟩
  | 2, _ => exact ⟨_, rfl, rfl, w2⟩
  | 3, _ => exact ⟨_, rfl, rfl, w3⟩
  | 4, _ => exact ⟨_, rfl, rfl, w4⟩
  | 5, _ => exact ⟨_, rfl, h⟩
  | 6, _ => exact ⟨_, rfl, rfl, w6⟩
  | 7, _ => exact ⟨_, rfl, rfl, w7⟩
  | 8, _ => exact ⟨_, rfl, rfl, w8⟩
  | n + 9, h => omega

set_option maxHeartbeats 4000000 in
set_option maxRecDepth 100000 in
theorem pasts_of (lo hi : Nat) (w : World) (L : Option Addr) (c : Nat) (l : List TVersion) (h : Lies lo hi w (dVersion l) (.slice L l.length c)) (hh : hi ≤ w.heap.size) (hm : room (dVersion l) ≤ 1048576) :
    Calls Try.prog 41 #[.slice L l.length c] w fun e w' => ∃ F, e = .returned (.map (some w.heap.size)) ∧ Pasts w.heap.size l.length w' F ∧ Groups w.heap.size w.heap.size lo hi w' F l l.length ∧ Below w.heap.size w w' := by
  obtain ⟨n, hn⟩ : ∃ n, l.length = n := ⟨_, rfl⟩
  have hnm : n ≤ 1048576 := by have : room (dVersion l) = l.length + _ := rfl; omega
  rw [hn] at h ⊢
  have HN := Lib.hid hn
  clear hn hm
  have hp0 := Pasts.made w
  have hg0 := Groups.start w.heap.size w.heap.size lo hi (w.alloc (.map #[] 0)) l
  have hb0 : Below w.heap.size w (w.alloc (.map #[] 0)) := (Below.refl _ _).alloc (Nat.le_refl _) _
  have hmm := @run_makeMap Try.prog
  go_enter Try.func41, Try.ntmps41
  go_wp2
  go_loopw [9] (fun i wr => ∃ (j : Nat) (F : TAddress → Value), j ≤ n ∧ i = .int .i64 j ∧ Pasts w.heap.size j wr F ∧ Groups w.heap.size w.heap.size lo hi wr F l j ∧ Below w.heap.size w wr) (fun i _ => n - (Go.RowKit.intOf i).toNat)
  case atStart => exact ⟨0, _, Nat.zero_le _, rfl, hp0, hg0, hb0⟩
  case round =>
    obtain ⟨j, F, hj, rfl, hp, hg, hb⟩ := hrel
    clear hp0 hg0 hb0
    by_cases hlt : j < n
    · have hbs := hb.size
      have hps := hp.lt
      obtain ⟨b, off, A5, c5, rfl, _, hbh, hc, q5, wf0, wf1, wf2, wf3, wf4, wf6, wf7, wf8, _⟩ := at_Version (h.under hb hh) hlt
      obtain ⟨V, hV⟩ : ∃ V, l.getD j nVersion = V := ⟨_, rfl⟩
      rw [hV] at hc q5 wf0 wf1 wf2 wf3 wf4 wf6 wf7 wf8
      obtain ⟨O, hO⟩ : ∃ O, O = Obj.cells (verCells V A5 c5).toArray 70 (0, 0) := ⟨_, rfl⟩
      have hA2 : Below wr.heap.size wr ((wr.alloc O).alloc O) := by repeat' (first | exact Below.refl _ _ | assumption | refine Below.setCell ?_ ?_ _ | refine Below.alloc ?_ ?_ _ | refine Gen.gbelow_drewN ?_ _ | refine Below.drew ?_ | exact Nat.le_refl _ | omega | (dsimp only; omega) | refine Gen.gle_alloc ?_ | refine Gen.gle_set ?_ | refine Gen.gle_drewN ?_ | refine Gen.gle_drew ?_)
      have qB : Blk 70 wr.heap.size (verCells V A5 c5) (wr.alloc O) := by rw [hO]; exact Blk.new _ _ wr
      have qS : Blk 70 (wr.heap.size + 1) (verCells V A5 c5) ((wr.alloc O).alloc O) := by have := Blk.new 70 (verCells V A5 c5) (wr.alloc O); rw [gsize_alloc] at this; rw [hO] at this ⊢; exact this
      obtain ⟨st, w1, v', w2, w3, F', r1, r2, r3, hp3, hg3, hb3⟩ := (hg.below hA2).step (b2 := wr.heap.size + 1) (c := 1) (us := verCells V A5 c5) (hp.below hA2) (by omega) hh (Nat.le_refl _) (by omega) (by rw [HN.out]; exact hlt) hV ⟨wf0, wf1, wf2⟩ rfl (fun x u hu => qS.at hu) (by simp [verCells, Value.oneCell'])
        (fun x hx => by obtain ⟨u, e1, e2⟩ := verCells_lie q5 wf0 wf1 wf2 wf3 wf4 wf6 wf7 wf8 x hx; exact ⟨u, e1, e2.below hA2⟩) (by omega) 61
      obtain ⟨v0, hv0⟩ : ∃ v0, F V.f0 = v0 := ⟨_, rfl⟩
      rw [hv0] at r1 r2
      have hbf := hb.trans ((hA2.mono hbs).trans hb3)
      have y0 : (wr.alloc O).cell? ⟨wr.heap.size, 0, none⟩ = some (.int .i64 V.f0.f0) := qB.at rfl
      have y1 : (wr.alloc O).cell? ⟨wr.heap.size, 1, none⟩ = some (.int .i64 V.f0.f1) := qB.at rfl
      have y2 : (wr.alloc O).cell? ⟨wr.heap.size, 2, none⟩ = some (.int .i64 V.f0.f2) := qB.at rfl
      have y3 : (wr.alloc O).cell? ⟨wr.heap.size, 3, none⟩ = some (.int .i64 V.f1) := qB.at rfl
      have y4 : (wr.alloc O).cell? ⟨wr.heap.size, 4, none⟩ = some (.int .i64 V.f2.f0) := qB.at rfl
      have y5 : (wr.alloc O).cell? ⟨wr.heap.size, 5, none⟩ = some (.slice A5 V.f2.f1.length c5) := qB.at rfl
      have y6 : (wr.alloc O).cell? ⟨wr.heap.size, 6, none⟩ = some (.int .i64 V.f2.f2.f0) := qB.at rfl
      have y7 : (wr.alloc O).cell? ⟨wr.heap.size, 7, none⟩ = some (.int .i64 V.f2.f2.f1) := qB.at rfl
      have y8 : (wr.alloc O).cell? ⟨wr.heap.size, 8, none⟩ = some (.int .i64 V.f2.f2.f2) := qB.at rfl
      subst hO
      simp only [vA, verCells] at r1 y0 y1 y2 y3 y4 y5 y6 y7 y8
      obtain ⟨c0, c1, c2, c3, c4, c5', c6, c7, c8⟩ := hc
      clear hV hv0 hp hg hA2 qB qS q5 wf0 wf1 wf2 wf3 wf4 wf6 wf7 wf8 hb3
      have r2 := Lib.hid r2
      go_wp2_with (at_builtin; refine Lib.wpList_append_run _ rfl _ _ _ _ rfl _ _ rfl rfl _ _ r2.out ?_)
      go_roundw
      case rel => exact ⟨j + 1, F', by omega, by go_num, hp3, hg3, hbf⟩
      case measure => simp [Go.RowKit.intOf]; omega
    · have hd : decide ((j : Int) < (n : Int)) = false := by simp; omega
      obtain rfl : j = n := by omega
      go_wp2
      go_ret
      exact ⟨F, rfl, hp, hg, hb⟩
end Go.Proofs.Ytldpgkbemgpacaa.Sites
