/-
  Slices of integers that have no place in common, also in one block: a mark into one leaves the other.
  Conditions: the rows lie in memory and are a call's own.
-/
import Derived.Test.YtbohkohccnieiaaDatInts
namespace Go.Proofs.Ytbohkohccnieiaa.Gen
open Go Go.RowKit Go.Proofs.Ytbohkohccnieiaa.Mem Go.Proofs.Ytbohkohccnieiaa.Nts

/-- No place in common. -/
def Far (a1 : Option Addr) (n1 : Nat) (a2 : Option Addr) (n2 : Nat) : Prop :=
  ∀ b o1 o2, a1 = some ⟨b, o1, none⟩ → a2 = some ⟨b, o2, none⟩ → 0 < n1 → 0 < n2 → o1 + n1 ≤ o2 ∨ o2 + n2 ≤ o1
theorem Far.symm {a1 a2 : Option Addr} {n1 n2 : Nat} (h : Far a1 n1 a2 n2) : Far a2 n2 a1 n1 := fun b o1 o2 e1 e2 h1 h2 => (h b o2 o1 e2 e1 h2 h1).symm
theorem Far.of_owns {w : World} {z1 z2 : List Int} {a1 a2 : Option Addr} {n1 n2 c1 c2 : Nat} {S1 S2 : Nat → Prop} (h1 : Owns w (ints z1) (.slice a1 n1 c1) S1) (h2 : Owns w (ints z2) (.slice a2 n2 c2) S2) (d : ∀ t, S1 t → ¬ S2 t) : Far a1 n1 a2 n2 := by
  rintro b o1 o2 rfl rfl p1 p2
  obtain ⟨A, c, e, _, _, k1⟩ := h1
  injection e with e1 e2 _
  subst e1 e2
  obtain ⟨b', off, G, e, s1, _⟩ := k1 p1
  injection e with e
  injection e with e _
  subst e
  obtain ⟨A, c, e, _, _, k2⟩ := h2
  injection e with e1 e2 _
  subst e1 e2
  obtain ⟨b', off, G, e, s2, _⟩ := k2 p2
  injection e with e
  injection e with e _
  subst e
  exact absurd s2 (d _ s1)
theorem Far.at {b o1 o2 n1 n2 : Nat} (h : o1 + n1 ≤ o2) : Far (some ⟨b, o1, none⟩) n1 (some ⟨b, o2, none⟩) n2 := by
  intro b' p1 p2 e1 e2 _ _
  injection e1 with e1
  injection e1 with _ e1
  injection e2 with e2
  injection e2 with _ e2
  omega

/-- All places but those of one slice are as they were. -/
def Beyond (a : Option Addr) (n : Nat) (w w' : World) : Prop :=
  ∀ b o, (∀ off, a = some ⟨b, off, none⟩ → o < off ∨ off + n ≤ o) → b < w.heap.size → w'.cell? ⟨b, o, none⟩ = w.cell? ⟨b, o, none⟩ ∧ w'.frozen? ⟨b, o, none⟩ = w.frozen? ⟨b, o, none⟩
theorem Beyond.refl (a : Option Addr) (n : Nat) (w : World) : Beyond a n w w := fun _ _ _ _ => ⟨rfl, rfl⟩
theorem Beyond.setCell {b off n j : Nat} {w w' : World} (h : Beyond (some ⟨b, off, none⟩) n w w') (hj : j < n) (v : Value) : Beyond (some ⟨b, off, none⟩) n w (w'.setCell ⟨b, off + j, none⟩ v) := by
  intro b' o ho hb
  rw [World.frozen?_setCell]
  refine ⟨?_, (h b' o ho hb).2⟩
  rw [World.cell?_setCell_other _ _ _ _ (by
    intro e
    injection e with e1 e2 _
    subst e1
    have := ho off rfl
    omega)]
  exact (h b' o ho hb).1
/-- A slice that lies apart stays. -/
theorem owns_beyond {w w' : World} {zs : List Int} {a1 a2 : Option Addr} {n1 n2 c2 : Nat} {S : Nat → Prop} (h : Owns w (ints zs) (.slice a2 n2 c2) S) (hb : Beyond a1 n1 w w') (hf : Far a1 n1 a2 n2) (hp : n1 = 0 → w' = w) : Owns w' (ints zs) (.slice a2 n2 c2) S := by
  rcases Nat.eq_zero_or_pos n1 with h0 | hpos
  · rw [hp h0]; exact h
  obtain ⟨A, c, e, g1, g2, k⟩ := h
  injection e with e1 e2 e3
  subst e1 e2 e3
  refine ⟨a2, c2, rfl, g1, g2, fun hn => ?_⟩
  obtain ⟨b, off, G, rfl, s, ap, q⟩ := k hn
  refine ⟨b, off, G, rfl, s, ap, fun i hi x hx => ?_⟩
  obtain ⟨f, u, c, r⟩ := q i hi x hx
  obtain rfl : x = 0 := by omega
  have := hb b (off + i * 1 + 0) (fun o e => by have := hf b o off e rfl hpos hn; omega) (Mem.cell_lt c)
  exact ⟨by rw [this.2]; exact f, u, by rw [this.1]; exact c, r⟩

set_option maxHeartbeats 800000 in
set_option maxRecDepth 100000 in
theorem mark_at (lo hi k0 : Nat) (w : World) (a : Option Addr) (n c : Nat) (zs : List Int) (h : Own .i64 lo hi w a n zs) (hn : n + k0 ≤ 9223372036854775807) :
    Calls Try.prog 54 #[.slice a n c, .int .i64 k0] w fun e w' => e = .returned (.int .i64 ((k0 + n : Nat) : Int)) ∧ Own .i64 lo hi w' a n (marks .i64 k0 n) ∧ Zone lo hi w w' ∧ Beyond a n w w' ∧ (n = 0 → w' = w) := by
  rcases Nat.eq_zero_or_pos n with rfl | hpos
  · go_enter Try.func54, Try.ntmps54
    go_wp2
    refine wp_loop_rounds 1 ?_
    rw [rounds_succ]
    go_wp2
    go_ret
    exact ⟨rfl, Own.nil _ _ _ _ _, Zone.refl _ _ _, Beyond.refl _ _ _, fun _ => rfl⟩
  obtain ⟨b, off, rfl, hlo, hhi, hc⟩ := h.here hpos
  have hlen := Lib.hid h.len
  have hm0 : Hid (Marked k0 0 zs b off n w) := by
    intro i hi; rw [half_zero]; exact hc i hi
  clear hc h
  go_enter Try.func54, Try.ntmps54
  go_wp2
  go_loopw [1, 5] (fun k i wr => ∃ j : Nat, j ≤ n ∧ i = .int .i64 j ∧ k = .int .i64 ((k0 + j : Nat) : Int) ∧ Hid (Marked k0 j zs b off n wr) ∧ Zone lo hi w wr ∧ Beyond (some ⟨b, off, none⟩) n w wr) (fun _ i _ => n - (intOf i).toNat)
  case atStart => exact ⟨0, Nat.zero_le _, rfl, rfl, hm0, Zone.refl _ _ _, Beyond.refl _ _ _⟩
  case round =>
    obtain ⟨j, hj, rfl, rfl, hm, hz, hy⟩ := hrel
    clear hm0
    by_cases hlt : j < n
    · obtain ⟨hd, hf⟩ := hm.out j hlt
      go_wp2
      go_roundw
      case rel => exact ⟨j + 1, by omega, by go_num, by go_num, marked_next k0 j b off n zs wr _ hm.out hlt hlen.out (by first | rfl | (rw [IntKind.wrap_i64]; omega)), hz.setCell ⟨hlo, hhi⟩ _, hy.setCell hlt _⟩
      case measure => simp [intOf]; omega
    · have hd : decide ((j : Int) < (n : Int)) = false := by simp; omega
      have HE := Lib.hid (show j = n by omega)
      go_wp2
      go_ret
      have h1 := hm.out
      rw [HE.out] at h1
      refine ⟨by rw [HE.out]; rfl, ⟨marks_len _ _ _, marks_wf _ _, fun _ => ⟨b, off, rfl, hlo, hhi, fun i hi => ?_⟩⟩, hz, hy, fun h0 => absurd h0 (by omega)⟩
      have h2 := h1 i hi
      rw [half_all k0 n zs hlen.out] at h2
      exact h2
/-- Marks written into one slice. -/
theorem gmark_far {w : World} {zs : List Int} {a : Option Addr} {c : Nat} {S : Nat → Prop} (m : Nat) (h : Owns w (ints zs) (.slice a zs.length c) S) (hm : m + ct (ints zs) ≤ 1125899906842624) :
    Calls Try.prog 54 #[.slice a zs.length c, .int .i64 m] w fun e w' => e = .returned (.int .i64 ((m + ct (ints zs) : Nat) : Int)) ∧ Owns w' (ints (marks .i64 m zs.length)) (.slice a zs.length c) S ∧ Turn S w w' ∧
      ∀ (ys : List Int) (a2 : Option Addr) (n2 c2 : Nat) (T : Nat → Prop), Far a zs.length a2 n2 → Owns w (ints ys) (.slice a2 n2 c2) T → Owns w' (ints ys) (.slice a2 n2 c2) T := by
  rw [ct_ints] at hm ⊢
  obtain ⟨A, c', x, y, e, h1, h2, ho, hS⟩ := h.row
  injection e with e1 _ e3
  subst e1 e3
  refine (mark_at x y m w a zs.length c zs ho (by omega)).mono ?_
  rintro e w' ⟨rfl, ho', hz, hy, hp⟩
  refine ⟨rfl, ?_, Turn.of_zone hz hS, fun ys a2 n2 c2 T hf hO => owns_beyond hO hy hf hp⟩
  have := Owns.of_row (lo := x) (hi := y) (A := a) (n := zs.length) (c := c) (zs := marks .i64 m zs.length) ho' h1 h2 hS
  exact this
end Go.Proofs.Ytbohkohccnieiaa.Gen
