/-
  The draws of two bodies, and of a body and pieces.
  Conditions: the bytes are in memory.
-/
import Derived.Test.YtkjglmfnlpapbaaDrawPair
import Derived.Test.YtkjglmfnlpapbaaPiecesOf
namespace Go.Proofs.Ytkjglmfnlpapbaa.Draw
open Go Go.RowKit Go.Proofs.Ytkjglmfnlpapbaa.Mem Go.Proofs.Ytkjglmfnlpapbaa.Adr Go.Proofs.Ytkjglmfnlpapbaa.Pieces

/-- Two bodies, drawn. -/
def DrawnPair (w : World) (e : Ending) (w' : World) : Prop :=
  ∃ a n c xs b m d ys, e = .returned (.tuple #[.slice a n c, .slice b m d]) ∧ Row .i64 0 w'.heap.size w' a n xs ∧ Row .i64 0 w'.heap.size w' b m ys ∧ n ≤ 8 ∧ m ≤ 101 ∧ n ≤ c ∧ m ≤ d ∧ Below w.heap.size w w'

set_option maxRecDepth 100000 in
theorem draw_pair (B : Nat) (a : Option Addr) (n c : Nat) (w : World) (hb : Bytes B w a n) (hB : B ≤ w.heap.size) :
    Calls Try.prog 9 #[.slice a n c] w (DrawnPair w) := by
  go_enter Try.func9, Try.ntmps9
  go_wp2_with fail
  go_at_call 29
  refine (new_any B a n c _ hb hB).mono ?_
  rintro e w1 ⟨rfl, hc1, hb1⟩
  have hs1 := hc1.lt
  clear hb
  go_wp2_with fail
  go_at_call 30
  refine (pair8 B _ _ hc1).mono ?_
  rintro e w2 ⟨a1, n1, c1, xs, b1, m1, d1, ys, rfl, hx, hy, hn, hm, hcx, hcy, hc2, ho2⟩
  have hB2 := hb1.trans (ho2.below (B := w.heap.size) (by omega) hb1.size)
  have hx0 := hx.more (Nat.zero_le _) (Nat.le_refl _)
  have hy0 := hy.more (Nat.zero_le _) (Nat.le_refl _)
  clear hc1 hc2 ho2 hx hy
  go_wp2
  go_ret2
  exact ⟨_, _, _, _, _, _, _, _, rfl, hx0, hy0, hn, hm, hcx, hcy, hB2⟩

theorem COwn.on {lo hi n p : Nat} {w w' : World} {a : Option Addr} {l : List Pc} (h : COwn lo hi w a n l) (ho : Only p w w') (hp : p < lo) : COwn lo hi w' a n l := h.keep fun i h0 h1 _ => ho.block i h0 (by omega)
/-- A number is written into a piece of a list of the call's own. -/
theorem COwn.edit {lo hi n b off i o : Nat} {w : World} {l : List Pc} {P : Pc} {z : Int} (h : COwn lo hi w (some ⟨b, off, none⟩) n l) (hi' : i < n) (ho : (o = 0 ∧ P = { pc l i with f := z }) ∨ (o = 1 ∧ P = { pc l i with m := z })) (hw : (Lit.int .i64 z).wf = true) :
    COwn lo hi (w.setCell ⟨b, off + i * 3 + o, none⟩ (.int .i64 z)) (some ⟨b, off, none⟩) n (l.set i P) ∧ (∃ u, w.cell? ⟨b, off + i * 3 + o, none⟩ = some u) ∧ w.frozen? ⟨b, off + i * 3 + o, none⟩ = false ∧ lo ≤ b := by
  have hl := h.len
  have hwf := h.wf
  obtain ⟨b', off', F, e1, e2, e3, hH, hS⟩ := h.here (by omega)
  injection e1 with e1
  injection e1 with e1 e4 _
  subst e1 e4
  have hzs : P.zs = (pc l i).zs := by rcases ho with ⟨_, rfl⟩ | ⟨_, rfl⟩ <;> rfl
  have hpc : ∀ j, (pc (l.set i P) j).zs = (pc l j).zs := fun j => by
    by_cases hj : j = i
    · subst hj
      rw [show pc (l.set j P) j = P by simp [pc, List.getD_eq_getElem?_getD, show j < l.length by omega]]
      exact hzs
    · rw [show pc (l.set i P) j = pc l j by simp only [pc, List.getD_eq_getElem?_getD]; rw [List.getElem?_set_ne (fun e => hj e.symm)]]
  have hob : o < 2 := by rcases ho with ⟨rfl, _⟩ | ⟨rfl, _⟩ <;> omega
  refine ⟨⟨by simpa using hl, fun Q hQ => ?_, fun _ => ⟨b, off, F, rfl, e2, e3, fun j hj => ?_, ?_⟩⟩, ?_, ?_, e2⟩
  · rcases List.mem_or_eq_of_mem_set hQ with q | rfl
    · exact hwf Q q
    · have hP := hwf _ (pc_mem (l := l) (i := i) (by omega))
      rcases ho with ⟨_, rfl⟩ | ⟨_, rfl⟩
      · exact ⟨hw, hP.2⟩
      · exact ⟨hP.1, hw⟩
  · obtain ⟨⟨c0, c1, c2⟩, hf, hb, hle, hmx⟩ := hH j hj
    have hbody : Own .i64 lo hi (w.setCell ⟨b, off + i * 3 + o, none⟩ (.int .i64 z)) (F j).1 (pc l j).zs.length (pc l j).zs := by
      refine ⟨hb.len, hb.wf, fun hp => ?_⟩
      obtain ⟨g, q, k1, k2, k3, k4⟩ := hb.here hp
      have hne : g ≠ b := hS.1 j hj _ k1 hp
      refine ⟨g, q, k1, k2, k3, fun t ht => ?_⟩
      have e := Below.heap_setCell w ⟨b, off + i * 3 + o, none⟩ (.int .i64 z) g hne
      rw [Mem.cell_of_heap e, Mem.frozen_of_heap e]
      exact k4 t ht
    refine ⟨?_, fun x hx => by rw [World.frozen?_setCell]; exact hf x hx, by rw [hpc j]; exact hbody, by rw [hpc j]; exact hle, hmx⟩
    by_cases hj2 : j = i
    · subst hj2
      rw [show pc (l.set j P) j = P by simp [pc, List.getD_eq_getElem?_getD, show j < l.length by omega]]
      rcases ho with ⟨rfl, rfl⟩ | ⟨rfl, rfl⟩
      · refine ⟨World.cell?_setCell_same _ _ _ c0, ?_, ?_⟩
        all_goals rw [cell_set_ne _ (by omega)]; assumption
      · refine ⟨?_, World.cell?_setCell_same _ _ _ c1, ?_⟩
        all_goals rw [cell_set_ne _ (by omega)]; assumption
    · rw [show pc (l.set i P) j = pc l j by simp only [pc, List.getD_eq_getElem?_getD]; rw [List.getElem?_set_ne (fun e => hj2 e.symm)]]
      have hd : j < i ∨ i < j := by omega
      refine ⟨?_, ?_, ?_⟩
      all_goals rw [cell_set_ne _ (by omega)]; assumption
  · exact ⟨fun j hj x hx hp => hS.1 j hj x hx (by rw [← hpc j]; exact hp), fun j k hj hk hne x y hx hy hpx hpy => hS.2 j k hj hk hne x y hx hy (by rw [← hpc j]; exact hpx) (by rw [← hpc k]; exact hpy)⟩
  · obtain ⟨⟨c0, c1, c2⟩, _, _, _, _⟩ := hH i hi'
    rcases ho with ⟨rfl, _⟩ | ⟨rfl, _⟩
    · exact ⟨_, c0⟩
    · exact ⟨_, c1⟩
  · obtain ⟨_, hf, _, _, _⟩ := hH i hi'
    exact hf o (by omega)

/-- A body and pieces, drawn. -/
def DrawnApply (w : World) (e : Ending) (w' : World) : Prop :=
  ∃ a n c xs b m d l, e = .returned (.tuple #[.slice a n c, .slice b m d]) ∧ Row .i64 0 w'.heap.size w' a n xs ∧ CRow 0 w'.heap.size w' b m l ∧ n ≤ 8 ∧ room l ≤ 1000 ∧ n ≤ c ∧ Below w.heap.size w w'
theorem room_set {P : Pc} : ∀ {l : List Pc} {i : Nat}, room (l.set i P) ≤ room l + P.zs.length
  | [], _ => by simp [room]
  | Q :: l, 0 => by simp only [List.set_cons_zero, room]; omega
  | Q :: l, i + 1 => by
    have := room_set (P := P) (l := l) (i := i)
    simp only [List.set_cons_succ, room]; omega
theorem zs_room {l : List Pc} {i : Nat} (h : i < l.length) : (pc l i).zs.length ≤ room l := by
  have h1 := bodies_take l i h
  have h2 := bodies_le l (i + 1)
  have h3 := room_eq l
  omega
theorem pieces_len (xs ys : List Int) : (piecesL xs ys).length = 0 ∨ (piecesL xs ys).length = 2 := by
  unfold piecesL
  split
  · exact .inl rfl
  · exact .inr rfl

set_option maxHeartbeats 4000000 in
set_option maxRecDepth 100000 in
theorem draw_apply (B : Nat) (a : Option Addr) (n c : Nat) (w : World) (hb : Bytes B w a n) (hB : B ≤ w.heap.size) :
    Calls Try.prog 15 #[.slice a n c] w (DrawnApply w) := by
  go_enter Try.func15, Try.ntmps15
  go_wp2_with fail
  go_at_call 29
  refine (new_any B a n c _ hb hB).mono ?_
  rintro e w1 ⟨rfl, hc1, hb1⟩
  have hs1 := hc1.lt
  clear hb
  go_wp2_with fail
  go_at_call 30
  refine (pair8 B _ _ hc1).mono ?_
  rintro e w2 ⟨a1, n1, c1, xs, b1, m1, d1, ys, rfl, hx, hy, hn, hm, hcx, hcy, hc2, ho2⟩
  have hs2 := ho2.size
  have hB2 := hb1.trans (ho2.below (B := w.heap.size) (by omega) hb1.size)
  have hP := pieces_spec _ _ _ _ w2 a1 n1 c1 xs b1 m1 d1 ys hx hy hcy (by omega) (by omega)
  have hrm := room_pieces (xs := xs) (ys := ys)
  have hln := pieces_len xs ys
  obtain ⟨L, hL⟩ : ∃ L, piecesL xs ys = L := ⟨_, rfl⟩
  rw [hL] at hP hrm hln
  clear hL hc1 ho2 hy
  go_wp2_with fail
  go_at_call 16
  refine hP.mono ?_
  rintro e w3 ⟨a3, c3, rfl, hO, hOc, hOm, hb3⟩
  have hs3 := hb3.size
  have hx3 := hx.below hb3
  have hc3 := hc2.below hb3
  have hB3 := hB2.trans (hb3.mono hB2.size)
  clear hP hx hc2 hb3
  rcases hln with h0 | h2
  · obtain ⟨N, hN⟩ : ∃ N, L.length = N := ⟨_, rfl⟩
    rw [hN] at hO h0
    subst h0
    have d0 : decide (((0 : Nat) : Int) > 0) = false := by decide
    have hx4 := hx3.more (Nat.zero_le _) (show w2.heap.size ≤ w3.heap.size by omega)
    have hO4 := hO.row.more (Nat.zero_le _) (Nat.le_refl _)
    rw [hN]
    clear hO hx3 hc3 hN
    go_wp2
    go_ret2
    exact ⟨_, _, _, _, _, _, _, L, rfl, hx4, hO4, hn, by omega, hcx, hB3⟩
  obtain ⟨g, off, _, e3, hg, _, _, _⟩ := hO.here (by omega)
  subst e3
  rw [h2] at hO ⊢
  have d0 : decide ((((2 : Nat) : Int)) > 0) = true := by decide
  have i0 : (0 : Int) < ((2 : Nat) : Int) := by decide
  have i1 : (1 : Int) < ((2 : Nat) : Int) := by decide
  have hl0 := zs_room (l := L) (i := 0) (by omega)
  go_wp2_with fail
  go_at_call 34
  refine (once_any B _ 3 _ hc3 (by omega) (by omega)).mono ?_
  rintro e w4 ⟨⟨u1, rfl⟩, hc4, ho4⟩
  have hs4 := ho4.size
  have hO4 := COwn.on hO ho4 (by omega)
  have hx4 := Draw.Row.on hx3 ho4 (by omega)
  have hB4 := hB3.trans (ho4.below (B := w.heap.size) (by omega) hB3.size)
  clear ho4 hO hx3 hc3
  cases u1
  · go_wp2_with fail
    go_at_call 34
    refine (once_any B _ 3 _ hc4 (by omega) (by omega)).mono ?_
    rintro e w7 ⟨⟨u2, rfl⟩, hc7, ho7⟩
    have hs7 := ho7.size
    have hO7 := COwn.on hO4 ho7 (by omega)
    have hx7 := Draw.Row.on hx4 ho7 (by omega)
    have hB7 := hB4.trans (ho7.below (B := w.heap.size) (by omega) hB4.size)
    clear ho7 hO4 hx4 hc4
    cases u2
    · have hx8 := hx7.more (Nat.zero_le _) (show w2.heap.size ≤ w7.heap.size by omega)
      have hO8 := hO7.row.more (Nat.zero_le _) (show w3.heap.size ≤ w7.heap.size by omega)
      clear hO7 hx7 hc7
      go_wp2
      go_ret2
      exact ⟨_, _, _, _, _, _, _, _, rfl, hx8, hO8, hn, by omega, hcx, hB7⟩
    · go_wp2_with fail
      go_at_call 35
      refine (raw4 B _ _ hc7).mono ?_
      rintro e w8 ⟨⟨z2, z2a, z2b, rfl⟩, hc8, ho8⟩
      have hs8 := ho8.size
      have hO8 := COwn.on hO7 ho8 (by omega)
      have hx8 := Draw.Row.on hx7 ho8 (by omega)
      have hB8 := hB7.trans (ho8.below (B := w.heap.size) (by omega) hB7.size)
      obtain ⟨hO9, ⟨v2, hv2⟩, hf2, hgb⟩ := COwn.edit (i := 1) (o := 1) (P := { pc L 1 with m := z2 }) hO8 (by omega) (.inr ⟨rfl, rfl⟩) (WalkArith.wf_i64 ⟨z2a, z2b⟩)
      have hl9 := zs_room (l := L) (i := 1) (by have := hO8.len; omega)
      have hr9 := room_set (l := L) (i := 1) (P := { pc L 1 with m := z2 })
      have hr9' : room ((L).set 1 { pc L 1 with m := z2 }) ≤ room (L) + (pc L 1).zs.length := hr9
      have hB9 := hB8.setCell (p := ⟨g, off + 1 * 3 + 1, none⟩) (by show w.heap.size ≤ g; omega) (.int .i64 z2)
      have hx9 : Row .i64 0 (w8.setCell ⟨g, off + 1 * 3 + 1, none⟩ (.int .i64 z2)).heap.size (w8.setCell ⟨g, off + 1 * 3 + 1, none⟩ (.int .i64 z2)) a1 n1 xs := (hx8.zone ((Zone.refl g (g + 1) w8).setCell ⟨Nat.le_refl _, Nat.lt_succ_self _⟩ _) (Or.inl (by omega))).more (Nat.zero_le _) (by rw [size_set]; omega)
      have hO10 := hO9.row.more (lo' := 0) (hi' := (w8.setCell ⟨g, off + 1 * 3 + 1, none⟩ (.int .i64 z2)).heap.size) (Nat.zero_le _) (by rw [size_set]; omega)
      clear ho8 hO7 hx7 hc7 hc8 hO8 hx8 hO9 hr9
      go_wp2
      go_ret2
      exact ⟨_, _, _, _, _, _, _, _, rfl, hx9, hO10, hn, by omega, hcx, hB9⟩
  · go_wp2_with fail
    go_at_call 35
    refine (raw4 B _ _ hc4).mono ?_
    rintro e w5 ⟨⟨z1, z1a, z1b, rfl⟩, hc5, ho5⟩
    have hs5 := ho5.size
    have hO5 := COwn.on hO4 ho5 (by omega)
    have hx5 := Draw.Row.on hx4 ho5 (by omega)
    have hB5 := hB4.trans (ho5.below (B := w.heap.size) (by omega) hB4.size)
    obtain ⟨hO6, ⟨v1, hv1⟩, hf1, hgb⟩ := COwn.edit (i := 0) (o := 0) (P := { pc L 0 with f := z1 }) hO5 (by omega) (.inl ⟨rfl, rfl⟩) (WalkArith.wf_i64 ⟨z1a, z1b⟩)
    simp only [Nat.zero_mul, Nat.add_zero] at hO6 hv1 hf1
    have hr6 := room_set (l := L) (i := 0) (P := { pc L 0 with f := z1 })
    have hr6' : room (L.set 0 { pc L 0 with f := z1 }) ≤ room L + (pc L 0).zs.length := hr6
    obtain ⟨Q, hQ⟩ : ∃ Q, L.set 0 { pc L 0 with f := z1 } = Q := ⟨_, rfl⟩
    have hlQ := hO6.len
    rw [hQ] at hO6 hr6' hlQ
    have hB6 := hB5.setCell (p := ⟨g, off, none⟩) (by show w.heap.size ≤ g; omega) (.int .i64 z1)
    have hx6 : Row .i64 w1.heap.size w2.heap.size (w5.setCell ⟨g, off, none⟩ (.int .i64 z1)) a1 n1 xs := hx5.zone ((Zone.refl g (g + 1) w5).setCell ⟨Nat.le_refl _, Nat.lt_succ_self _⟩ _) (Or.inl (by omega))
    have hc6 := hc5.only_new (a := ⟨g, off, none⟩) (by show g ≠ w.heap.size; omega) (by show B ≤ g; omega) (.int .i64 z1)
    have hs6 : (w5.setCell ⟨g, off, none⟩ (.int .i64 z1)).heap.size = w5.heap.size := size_set _ _ _
    clear ho5 hO4 hx4 hc4 hc5 hO5 hx5 hr6 hQ
    go_wp2_with fail
    go_at_call 34
    refine (once_any B _ 3 _ hc6 (by omega) (by omega)).mono ?_
    rintro e w7 ⟨⟨u2, rfl⟩, hc7, ho7⟩
    have hs7 := ho7.size
    have hO7 := COwn.on hO6 ho7 (by omega)
    have hx7 := Draw.Row.on hx6 ho7 (by omega)
    have hB7 := hB6.trans (ho7.below (B := w.heap.size) (by omega) hB6.size)
    clear ho7 hO6 hx6 hc6
    cases u2
    · have hx8 := hx7.more (Nat.zero_le _) (show w2.heap.size ≤ w7.heap.size by omega)
      have hO8 := hO7.row.more (Nat.zero_le _) (show w3.heap.size ≤ w7.heap.size by omega)
      clear hO7 hx7 hc7
      go_wp2
      go_ret2
      exact ⟨_, _, _, _, _, _, _, _, rfl, hx8, hO8, hn, by omega, hcx, hB7⟩
    · go_wp2_with fail
      go_at_call 35
      refine (raw4 B _ _ hc7).mono ?_
      rintro e w8 ⟨⟨z2, z2a, z2b, rfl⟩, hc8, ho8⟩
      have hs8 := ho8.size
      have hO8 := COwn.on hO7 ho8 (by omega)
      have hx8 := Draw.Row.on hx7 ho8 (by omega)
      have hB8 := hB7.trans (ho8.below (B := w.heap.size) (by omega) hB7.size)
      obtain ⟨hO9, ⟨v2, hv2⟩, hf2, hgb⟩ := COwn.edit (i := 1) (o := 1) (P := { pc Q 1 with m := z2 }) hO8 (by omega) (.inr ⟨rfl, rfl⟩) (WalkArith.wf_i64 ⟨z2a, z2b⟩)
      have hl9 := zs_room (l := Q) (i := 1) (by have := hO8.len; omega)
      have hr9 := room_set (l := Q) (i := 1) (P := { pc Q 1 with m := z2 })
      have hr9' : room ((Q).set 1 { pc Q 1 with m := z2 }) ≤ room (Q) + (pc Q 1).zs.length := hr9
      have hB9 := hB8.setCell (p := ⟨g, off + 1 * 3 + 1, none⟩) (by show w.heap.size ≤ g; omega) (.int .i64 z2)
      have hx9 : Row .i64 0 (w8.setCell ⟨g, off + 1 * 3 + 1, none⟩ (.int .i64 z2)).heap.size (w8.setCell ⟨g, off + 1 * 3 + 1, none⟩ (.int .i64 z2)) a1 n1 xs := (hx8.zone ((Zone.refl g (g + 1) w8).setCell ⟨Nat.le_refl _, Nat.lt_succ_self _⟩ _) (Or.inl (by omega))).more (Nat.zero_le _) (by rw [size_set]; omega)
      have hO10 := hO9.row.more (lo' := 0) (hi' := (w8.setCell ⟨g, off + 1 * 3 + 1, none⟩ (.int .i64 z2)).heap.size) (Nat.zero_le _) (by rw [size_set]; omega)
      clear ho8 hO7 hx7 hc7 hc8 hO8 hx8 hO9 hr9
      go_wp2
      go_ret2
      exact ⟨_, _, _, _, _, _, _, _, rfl, hx9, hO10, hn, by omega, hcx, hB9⟩
end Go.Proofs.Ytkjglmfnlpapbaa.Draw
