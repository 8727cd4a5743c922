/-
  The exact laws' helper at a slice of parts: marks that are written.
  Conditions: the parts may be written, no two share memory.
-/
import Derived.Test.YtedjclnojocjkaaGreatDoorPtsEq
namespace Go.Proofs.YtedjclnojocjkaaGreatDoor.Parts
open Go Go.RowKit Go.Proofs.YtedjclnojocjkaaGreatDoor.Mem Go.Proofs.YtedjclnojocjkaaGreatDoor.Adr Go.Proofs.YtedjclnojocjkaaGreatDoor.Res

/-- What a mark leaves of a part. -/
def mk1 (k0 : Nat) (P : Prt) : Prt := ⟨(k0 : Nat), (k0 + 1 : Nat), marks .i64 (k0 + 2) P.zs.length, (k0 + 2 + P.zs.length : Nat), (k0 + 3 + P.zs.length : Nat), (k0 + 4 + P.zs.length : Nat), (k0 + 5 + P.zs.length : Nat)⟩
def mkAll : Nat → List Prt → List Prt
  | _, [] => []
  | k0, P :: l => mk1 k0 P :: mkAll (k0 + 6 + P.zs.length) l
theorem mkAll_len : ∀ (k0 : Nat) (l : List Prt), (mkAll k0 l).length = l.length
  | _, [] => rfl
  | k0, P :: l => by simp [mkAll, mkAll_len (k0 + 6 + P.zs.length) l]
theorem mk1_len (k0 : Nat) (P : Prt) : (mk1 k0 P).zs.length = P.zs.length := marks_len _ _ _
theorem mkAll_at : ∀ (k0 : Nat) (l : List Prt) (i : Nat), i < l.length → pt (mkAll k0 l) i = mk1 (k0 + 6 * i + bodies (l.take i)) (pt l i)
  | _, [], _, h => by simp at h
  | k0, P :: l, 0, _ => by simp [mkAll, pt, bodies]
  | k0, P :: l, i + 1, h => by
    have := mkAll_at (k0 + 6 + P.zs.length) l i (by simpa using h)
    simp only [List.take_succ_cons, bodies]
    rw [show k0 + 6 * (i + 1) + (P.zs.length + bodies (l.take i)) = k0 + 6 + P.zs.length + 6 * i + bodies (l.take i) by omega]
    simpa [mkAll, pt] using this
theorem mk1_wf {k0 : Nat} {P : Prt} (h : k0 + 5 + P.zs.length ≤ 9223372036854775807) : (mk1 k0 P).Wf := by
  refine ⟨?_, ?_, ?_, ?_, ?_, ?_⟩ <;> exact WalkArith.wf_i64 (by simp only [mk1]; omega)
theorem mkAll_wf : ∀ (k0 : Nat) (l : List Prt), k0 + 6 * l.length + bodies l ≤ 9223372036854775807 → ∀ P ∈ mkAll k0 l, P.Wf
  | _, [], _, P, h => by simp [mkAll] at h
  | k0, Q :: l, hb, P, h => by
    simp only [List.length_cons, bodies] at hb
    simp only [mkAll, List.mem_cons] at h
    rcases h with rfl | h
    · exact mk1_wf (by omega)
    · exact mkAll_wf _ l (by omega) P h

/-- A row in a block of its own. -/
theorem Own.alone {k : IntKind} {lo hi n : Nat} {w : World} {a : Option Addr} {zs : List Int} (h : Own k lo hi w a n zs) :
    ∃ x y, Own k x y w a n zs ∧ ∀ t, x ≤ t → t < y → 0 < n ∧ lo ≤ t ∧ t < hi ∧ ∃ ad, a = some ad ∧ ad.block = t := by
  rcases Nat.eq_zero_or_pos n with rfl | hp
  · exact ⟨0, 0, ⟨h.len, h.wf, fun h => absurd h (by omega)⟩, fun t _ ht => absurd ht (by omega)⟩
  · obtain ⟨b, off, rfl, h2, h3, h4⟩ := h.here hp
    exact ⟨b, b + 1, ⟨h.len, h.wf, fun _ => ⟨b, off, rfl, Nat.le_refl _, Nat.lt_succ_self _, h4⟩⟩, fun t h5 h6 => ⟨hp, by omega, by omega, _, rfl, by simp only; omega⟩⟩

/-- The parts of which the first j are marked. -/
structure Inked (lo hi k0 b off n : Nat) (F : Nat → Body) (l : List Prt) (j : Nat) (w : World) : Prop where
  done : ∀ i, i < j → Held lo hi w b (off + i * 7) (pt (mkAll k0 l) i) (F i)
  rest : ∀ i, j ≤ i → i < n → Held lo hi w b (off + i * 7) (pt l i) (F i)

/-- What is written of one part leaves every other part as it was. -/
theorem Held.beside {lo hi b o o2 x y : Nat} {w w' : World} {P : Prt} {f : Body} (h : Held lo hi w b o P f) (hb : ∀ t, (t < o2 ∨ o2 + 7 ≤ t) → w'.cell? ⟨b, t, none⟩ = w.cell? ⟨b, t, none⟩) (hf : ∀ t, w'.frozen? ⟨b, t, none⟩ = w.frozen? ⟨b, t, none⟩)
    (hz : ∀ t, t < w.heap.size → t ≠ b → (t < x ∨ y ≤ t) → w'.heap[t]? = w.heap[t]?) (ho : o + 7 ≤ o2 ∨ o2 + 7 ≤ o) (hP : ∀ ad, f.1 = some ad → 0 < P.zs.length → ad.block ≠ b ∧ (ad.block < x ∨ y ≤ ad.block)) : Held lo hi w' b o P f := by
  obtain ⟨c0, c1, c2, c3, c4, c5, c6⟩ := h.cells
  refine ⟨⟨?_, ?_, ?_, ?_, ?_, ?_, ?_⟩, fun t ht => by rw [hf]; exact h.free t ht, ⟨h.body.len, h.body.wf, fun hp => ?_⟩, h.le, h.max⟩
  all_goals try (rw [hb _ (by omega)]; assumption)
  obtain ⟨g, off, e1, e2, e3, e4⟩ := h.body.here hp
  obtain ⟨h1, h2⟩ := hP _ e1 hp
  refine ⟨g, off, e1, e2, e3, fun t ht => ?_⟩
  have e := hz g (Mem.cell_lt (e4 t ht).1) h1 h2
  rw [Mem.cell_of_heap e, Mem.frozen_of_heap e]
  exact e4 t ht

/-- The world behind the marks of one part. -/
def ink (w : World) (b o : Nat) (k0 m : Nat) : World :=
  (((w.setCell ⟨b, o + 3, none⟩ (.int .i64 (k0 + 2 + m : Nat))).setCell ⟨b, o + 4, none⟩ (.int .i64 (k0 + 3 + m : Nat))).setCell ⟨b, o + 5, none⟩ (.int .i64 (k0 + 4 + m : Nat))).setCell ⟨b, o + 6, none⟩ (.int .i64 (k0 + 5 + m : Nat))
def ink0 (w : World) (b o : Nat) (k0 : Nat) : World := (w.setCell ⟨b, o, none⟩ (.int .i64 (k0 : Nat))).setCell ⟨b, o + 1, none⟩ (.int .i64 (k0 + 1 : Nat))

theorem Inked.next {lo hi k0 b off n j x y k1 : Nat} {F : Nat → Body} {l : List Prt} {w w1 : World} (h : Inked lo hi k0 b off n F l j w) (hS : Sep b n F l) (hl : l.length = n) (hj : j < n) (hlo : lo ≤ b) (hhi : b < hi) (hk : k1 = k0 + 6 * j + bodies (l.take j))
    (hz : Zone x y (ink0 w b (off + j * 7) k1) w1) (hxy : ∀ t, x ≤ t → t < y → 0 < (pt l j).zs.length ∧ lo ≤ t ∧ t < hi ∧ ∃ ad, (F j).1 = some ad ∧ ad.block = t)
    (ho : Own .i64 x y w1 (F j).1 (pt l j).zs.length (marks .i64 (k1 + 2) (pt l j).zs.length)) :
    Inked lo hi k0 b off n F l (j + 1) (ink w1 b (off + j * 7) k1 (pt l j).zs.length) ∧ Zone lo hi w (ink w1 b (off + j * 7) k1 (pt l j).zs.length) := by
  obtain ⟨W, hW⟩ : ∃ W, W = ink w1 b (off + j * 7) k1 (pt l j).zs.length := ⟨_, rfl⟩
  have hH := h.rest j (Nat.le_refl _) hj
  have hbw := hH.cells.lt
  have hs0 : (ink0 w b (off + j * 7) k1).heap.size = w.heap.size := by simp [ink0, World.setCell]
  have hbx : b < x ∨ y ≤ b := by
    rcases Nat.lt_or_ge b x with h1 | h1
    · exact .inl h1
    · rcases Nat.lt_or_ge b y with h2 | h2
      · obtain ⟨h3, _, _, ad, h4, h5⟩ := hxy b h1 h2
        exact absurd h5 (hS.1 j hj ad h4 h3)
      · exact .inr h2
  have e0 : w1.heap[b]? = (ink0 w b (off + j * 7) k1).heap[b]? := hz.block b (by rw [hs0]; exact hbw) hbx
  have k1c : ∀ t, w1.cell? ⟨b, t, none⟩ = (ink0 w b (off + j * 7) k1).cell? ⟨b, t, none⟩ := fun t => Mem.cell_of_heap e0
  have k1f : ∀ t, w1.frozen? ⟨b, t, none⟩ = w.frozen? ⟨b, t, none⟩ := fun t => by
    rw [Mem.frozen_of_heap e0]; simp [ink0, World.frozen?_setCell]
  have kc : ∀ t, (t < off + j * 7 ∨ off + j * 7 + 7 ≤ t) → W.cell? ⟨b, t, none⟩ = w.cell? ⟨b, t, none⟩ := fun t ht => by
    rw [hW]; unfold ink
    rw [cell_set_ne _ (by omega), cell_set_ne _ (by omega), cell_set_ne _ (by omega), cell_set_ne _ (by omega), k1c]
    unfold ink0
    rw [cell_set_ne _ (by omega), cell_set_ne _ (by omega)]
  have kf : ∀ t, W.frozen? ⟨b, t, none⟩ = w.frozen? ⟨b, t, none⟩ := fun t => by
    rw [hW, ← k1f]; simp [ink, World.frozen?_setCell]
  have kz : ∀ t, t < w.heap.size → t ≠ b → (t < x ∨ y ≤ t) → W.heap[t]? = w.heap[t]? := fun t ht hne hxy' => by
    rw [hW]; unfold ink
    rw [Below.heap_setCell _ _ _ _ hne, Below.heap_setCell _ _ _ _ hne, Below.heap_setCell _ _ _ _ hne, Below.heap_setCell _ _ _ _ hne, hz.block t (by rw [hs0]; exact ht) hxy']
    unfold ink0
    rw [Below.heap_setCell _ _ _ _ hne, Below.heap_setCell _ _ _ _ hne]
  have hlen : ∀ i, i < n → (pt (mkAll k0 l) i).zs.length = (pt l i).zs.length := fun i hi => by rw [mkAll_at k0 l i (by omega), mk1_len]
  have hP : ∀ i, i < n → i ≠ j → ∀ ad, (F i).1 = some ad → 0 < (pt l i).zs.length → ad.block ≠ b ∧ (ad.block < x ∨ y ≤ ad.block) := fun i hi hne ad hA hp => by
    refine ⟨hS.1 i hi ad hA hp, ?_⟩
    rcases Nat.lt_or_ge ad.block x with h1 | h1
    · exact .inl h1
    · rcases Nat.lt_or_ge ad.block y with h2 | h2
      · obtain ⟨h3, _, _, ad2, h4, h5⟩ := hxy ad.block h1 h2
        exact absurd h5.symm (hS.2 i j hi hj hne ad ad2 hA h4 hp h3)
      · exact .inr h2
  have hHj : Held lo hi W b (off + j * 7) (mk1 k1 (pt l j)) (F j) := by
    obtain ⟨c0, c1, c2, c3, c4, c5, c6⟩ := hH.cells
    have r3 : w1.cell? ⟨b, off + j * 7 + 3, none⟩ = some (.int .i64 (pt l j).h) := by rw [k1c]; unfold ink0; rw [cell_set_ne _ (by omega), cell_set_ne _ (by omega)]; exact c3
    have r4 : w1.cell? ⟨b, off + j * 7 + 4, none⟩ = some (.int .i64 (pt l j).p) := by rw [k1c]; unfold ink0; rw [cell_set_ne _ (by omega), cell_set_ne _ (by omega)]; exact c4
    have r5 : w1.cell? ⟨b, off + j * 7 + 5, none⟩ = some (.int .i64 (pt l j).q) := by rw [k1c]; unfold ink0; rw [cell_set_ne _ (by omega), cell_set_ne _ (by omega)]; exact c5
    have r6 : w1.cell? ⟨b, off + j * 7 + 6, none⟩ = some (.int .i64 (pt l j).u) := by rw [k1c]; unfold ink0; rw [cell_set_ne _ (by omega), cell_set_ne _ (by omega)]; exact c6
    refine ⟨⟨?_, ?_, ?_, ?_, ?_, ?_, ?_⟩, fun t ht => by rw [kf]; exact hH.free t ht, ⟨rfl, fun z hz => (ho.wf z hz), fun hp => ?_⟩, by rw [mk1_len]; exact hH.le, hH.max⟩
    · rw [hW]; unfold ink
      rw [cell_set_ne _ (by omega), cell_set_ne _ (by omega), cell_set_ne _ (by omega), cell_set_ne _ (by omega), k1c]
      unfold ink0
      rw [cell_set_ne _ (by omega), World.cell?_setCell_same _ _ _ c0]
      rfl
    · rw [hW]; unfold ink
      rw [cell_set_ne _ (by omega), cell_set_ne _ (by omega), cell_set_ne _ (by omega), cell_set_ne _ (by omega), k1c]
      unfold ink0
      rw [World.cell?_setCell_same _ _ _ (by rw [cell_set_ne _ (by omega)]; exact c1)]
      rfl
    · rw [hW]; unfold ink
      rw [cell_set_ne _ (by omega), cell_set_ne _ (by omega), cell_set_ne _ (by omega), cell_set_ne _ (by omega), k1c]
      unfold ink0
      rw [cell_set_ne _ (by omega), cell_set_ne _ (by omega)]
      rw [mk1_len]
      exact c2
    · rw [hW]; unfold ink
      rw [cell_set_ne _ (by omega), cell_set_ne _ (by omega), cell_set_ne _ (by omega), World.cell?_setCell_same _ _ _ r3]
      rfl
    · rw [hW]; unfold ink
      rw [cell_set_ne _ (by omega), cell_set_ne _ (by omega), World.cell?_setCell_same _ _ _ (by rw [cell_set_ne _ (by omega)]; exact r4)]
      rfl
    · rw [hW]; unfold ink
      rw [cell_set_ne _ (by omega), World.cell?_setCell_same _ _ _ (by rw [cell_set_ne _ (by omega), cell_set_ne _ (by omega)]; exact r5)]
      rfl
    · rw [hW]; unfold ink
      rw [World.cell?_setCell_same _ _ _ (by rw [cell_set_ne _ (by omega), cell_set_ne _ (by omega), cell_set_ne _ (by omega)]; exact r6)]
      rfl
    · rw [mk1_len] at hp
      obtain ⟨g, o', e1, e2, e3, e4⟩ := ho.here hp
      obtain ⟨_, h1, h2, _⟩ := hxy g e2 e3
      refine ⟨g, o', e1, h1, h2, fun t ht => ?_⟩
      rw [mk1_len] at ht
      have e : W.heap[g]? = w1.heap[g]? := by
        have hne : g ≠ b := by omega
        rw [hW]; unfold ink
        rw [Below.heap_setCell _ _ _ _ hne, Below.heap_setCell _ _ _ _ hne, Below.heap_setCell _ _ _ _ hne, Below.heap_setCell _ _ _ _ hne]
      rw [Mem.cell_of_heap e, Mem.frozen_of_heap e]
      exact e4 t ht
  rw [← hW]
  refine ⟨⟨fun i hi => ?_, fun i hi hin => ?_⟩, ?_⟩
  · by_cases he : i = j
    · subst he
      rw [mkAll_at k0 l i (by omega), ← hk]
      exact hHj
    · have hi' : i < j := by omega
      exact (h.done i hi').beside kc kf kz (by omega) (fun ad hA hp => hP i (by omega) he ad hA (by rw [← hlen i (by omega)]; exact hp))
  · exact (h.rest i (by omega) hin).beside kc kf kz (by omega) (hP i hin (by omega))
  · rw [hW]
    have z0 : Zone lo hi w (ink0 w b (off + j * 7) k1) := by
      unfold ink0
      exact ((Zone.refl _ _ _).setCell ⟨hlo, hhi⟩ _).setCell ⟨hlo, hhi⟩ _
    have z1 : Zone lo hi (ink0 w b (off + j * 7) k1) w1 := ⟨hz.os, hz.tape, hz.output, hz.size, fun k hk hne => hz.block k hk (by
      rcases Nat.lt_or_ge k x with h1 | h1
      · exact .inl h1
      · rcases Nat.lt_or_ge k y with h2 | h2
        · obtain ⟨_, h3, h4, _⟩ := hxy k h1 h2
          omega
        · exact .inr h2)⟩
    unfold ink
    exact ((((z0.trans z1).setCell ⟨hlo, hhi⟩ _).setCell ⟨hlo, hhi⟩ _).setCell ⟨hlo, hhi⟩ _).setCell ⟨hlo, hhi⟩ _
theorem ink_ready {lo hi b o k x y : Nat} {w w1 : World} {P : Prt} {f : Body} (h : Held lo hi w b o P f) (hz : Zone x y (ink0 w b o k) w1) (hbx : b < x ∨ y ≤ b) :
    w1.cell? ⟨b, o + 3, none⟩ = some (.int .i64 P.h) ∧ w1.cell? ⟨b, o + 4, none⟩ = some (.int .i64 P.p) ∧ w1.cell? ⟨b, o + 5, none⟩ = some (.int .i64 P.q) ∧ w1.cell? ⟨b, o + 6, none⟩ = some (.int .i64 P.u) ∧ ∀ t, t < 7 → w1.frozen? ⟨b, o + t, none⟩ = false := by
  have hs0 : (ink0 w b o k).heap.size = w.heap.size := by simp [ink0, World.setCell]
  have e0 : w1.heap[b]? = (ink0 w b o k).heap[b]? := hz.block b (by rw [hs0]; exact h.cells.lt) hbx
  have k1c : ∀ t, w1.cell? ⟨b, t, none⟩ = (ink0 w b o k).cell? ⟨b, t, none⟩ := fun t => Mem.cell_of_heap e0
  refine ⟨?_, ?_, ?_, ?_, fun t ht => ?_⟩
  · rw [k1c]; unfold ink0; rw [cell_set_ne _ (by omega), cell_set_ne _ (by omega)]; exact h.cells.c3
  · rw [k1c]; unfold ink0; rw [cell_set_ne _ (by omega), cell_set_ne _ (by omega)]; exact h.cells.c4
  · rw [k1c]; unfold ink0; rw [cell_set_ne _ (by omega), cell_set_ne _ (by omega)]; exact h.cells.c5
  · rw [k1c]; unfold ink0; rw [cell_set_ne _ (by omega), cell_set_ne _ (by omega)]; exact h.cells.c6
  · rw [Mem.frozen_of_heap e0]; simp only [ink0, World.frozen?_setCell]; exact h.free t ht
theorem ink_eq (w : World) (b o k0 m : Nat) (r : Int) (h : r = (k0 + 2 + m : Nat)) : ink w b o k0 m = (((w.setCell ⟨b, o + 3, none⟩ (.int .i64 r)).setCell ⟨b, o + 4, none⟩ (.int .i64 (r + 1))).setCell ⟨b, o + 5, none⟩ (.int .i64 (r + 1 + 1))).setCell ⟨b, o + 6, none⟩ (.int .i64 (r + 1 + 1 + 1)) := by
  unfold ink
  rw [show ((k0 + 2 + m : Nat) : Int) = r by omega, show ((k0 + 3 + m : Nat) : Int) = r + 1 by omega, show ((k0 + 4 + m : Nat) : Int) = r + 1 + 1 by omega, show ((k0 + 5 + m : Nat) : Int) = r + 1 + 1 + 1 by omega]
theorem ink0_eq (w : World) (b o k0 : Nat) : ink0 w b o k0 = (w.setCell ⟨b, o, none⟩ (.int .i64 (k0 : Int))).setCell ⟨b, o + 1, none⟩ (.int .i64 ((k0 : Int) + 1)) := rfl

set_option maxHeartbeats 1600000 in
set_option maxRecDepth 100000 in
theorem mark_parts (lo hi k0 : Nat) (w : World) (a : Option Addr) (n c : Nat) (l : List Prt) (h : POwn lo hi w a n l) (hk : k0 + 6 * n + bodies l ≤ 1125899906842624) :
    Calls Tryz.prog 27 #[.slice a n c, .int .i64 k0] w fun e w' => e = .returned (.int .i64 ((k0 + 6 * n + bodies l : Nat) : Int)) ∧ POwn lo hi w' a n (mkAll k0 l) ∧ Zone lo hi w w' := by
  have hlen := h.len
  rcases Nat.eq_zero_or_pos n with rfl | hpos
  · obtain rfl : l = [] := List.eq_nil_of_length_eq_zero hlen
    go_enter Tryz.func27, Tryz.ntmps27
    go_wp2
    refine wp_loop_rounds 1 ?_
    rw [rounds_succ]
    go_wp2
    go_ret
    exact ⟨rfl, POwn.nil _ _ _ _, Zone.refl _ _ _⟩
  obtain ⟨b, off, F, rfl, hlo, hhi, hc, hS⟩ := h.here hpos
  have hm0 : Hid (Inked lo hi k0 b off n F l 0 w) := ⟨fun i hi => absurd hi (by omega), fun i _ hi => hc i hi⟩
  have hnb : n ≤ 1125899906842624 := by omega
  have HS := Lib.hid hS
  have HW := Lib.hid (mkAll_wf k0 l (by rw [hlen]; omega))
  have HM := Lib.hid hk
  have HL := Lib.hid hlen
  clear hc h hS hk hlen
  go_enter Tryz.func27, Tryz.ntmps27
  go_wp2
  go_loopw [1, 5] (fun k i wr => ∃ j kk : Nat, j ≤ n ∧ i = .int .i64 j ∧ k = .int .i64 kk ∧ Hid (kk = k0 + 6 * j + bodies (l.take j)) ∧ kk ≤ 1125899906842624 ∧ Hid (Inked lo hi k0 b off n F l j wr) ∧ Zone lo hi w wr) (fun _ i _ => n - (intOf i).toNat)
  case atStart => exact ⟨0, k0, Nat.zero_le _, rfl, rfl, by simp [bodies, Hid], by have := HM.out; omega, hm0, Zone.refl _ _ _⟩
  case round =>
    obtain ⟨j, kk, hj, rfl, rfl, HK, hkk, hm, hz⟩ := hrel
    clear hm0
    by_cases hlt : j < n
    · have hH := hm.out.rest j (Nat.le_refl _) hlt
      obtain ⟨c0, c1, c2, c3, c4, c5, c6⟩ := hH.cells
      have g0 := hH.free 0 (by omega)
      have g1 := hH.free 1 (by omega)
      have g2 := hH.free 2 (by omega)
      have g3 := hH.free 3 (by omega)
      have g4 := hH.free 4 (by omega)
      have g5 := hH.free 5 (by omega)
      have g6 := hH.free 6 (by omega)
      rw [Nat.add_zero] at g0
      obtain ⟨x, y, hO, hxy⟩ := Own.alone hH.body
      have hbx : b < x ∨ y ≤ b := by
        rcases Nat.lt_or_ge b x with h1 | h1
        · exact .inl h1
        · rcases Nat.lt_or_ge b y with h2 | h2
          · obtain ⟨h3, _, _, ad, h4, h5⟩ := hxy b h1 h2
            exact absurd h5 (HS.out.1 j hlt ad h4 h3)
          · exact .inr h2
      have hbd : bodies (l.take j) + (pt l j).zs.length ≤ bodies l := by
        have h1 := bodies_take l j (by have := HL.out; omega)
        have h2 := bodies_le l (j + 1)
        omega
      have hlm : (pt l j).zs.length + (kk + 2) ≤ 9223372036854775807 := by have := HM.out; omega
      have hO1 : Own .i64 x y (ink0 wr b (off + j * 7) kk) (F j).1 (pt l j).zs.length (pt l j).zs := hO.keep fun i _ h1 h2 => by
        have hne : i ≠ b := by omega
        rw [ink0_eq, Below.heap_setCell _ _ _ _ hne, Below.heap_setCell _ _ _ _ hne]
      have hM := Nts.mark_any x y (kk + 2) _ (F j).1 (pt l j).zs.length (F j).2 (pt l j).zs hO1 hlm
      rw [ink0_eq, show ((kk + 2 : Nat) : Int) = (kk : Int) + 1 + 1 by omega] at hM
      obtain ⟨r, hr⟩ : ∃ r : Int, r = ((kk + 2 + (pt l j).zs.length : Nat) : Int) := ⟨_, rfl⟩
      rw [← hr] at hM
      have hr0 : 0 ≤ r := by omega
      have hr1 : r ≤ 1125899906842630 := by have := HM.out; have := HK.out; omega
      have HR := Lib.hid hr
      have HX := Lib.hid hxy
      have HB := Lib.hid hbd
      clear hr hbd hO hO1 hxy hlm
      go_wp2_with fail
      go_at_call 67
      refine hM.mono ?_
      rintro e w1 ⟨rfl, hO2, hz1⟩
      rw [← ink0_eq] at hz1
      obtain ⟨r3, r4, r5, r6, rf⟩ := ink_ready hH hz1 hbx
      have f3 := rf 3 (by omega)
      have f4 := rf 4 (by omega)
      have f5 := rf 5 (by omega)
      have f6 := rf 6 (by omega)
      clear c0 c1 c2 c3 c4 c5 c6 g0 g1 g2 g3 g4 g5 g6 rf hM hH
      obtain ⟨hin, hzn⟩ := hm.out.next HS.out HL.out hlt hlo hhi HK.out hz1 HX.out hO2
      rw [ink_eq _ _ _ _ _ r HR.out] at hin hzn
      have HI := Lib.hid hin
      clear hin hO2
      go_wp2
      go_roundw
      case rel =>
        refine ⟨j + 1, kk + 6 + (pt l j).zs.length, by omega, by go_num, ?_, ?_, ?_, HI, hz.trans hzn⟩
        · have := HR.out
          first
            | (rw [show ((kk + 6 + (pt l j).zs.length : Nat) : Int) = r + 1 + 1 + 1 + 1 by omega])
            | (congr 1; omega)
        · have h1 := HK.out
          have h2 := bodies_take l j (by have := HL.out; omega)
          show _ = _
          omega
        · have h1 := HK.out
          have h2 := HB.out
          have h3 := HM.out
          omega
      case measure => simp [intOf]; omega
    · have hd : decide ((j : Int) < (n : Int)) = false := by simp; omega
      have HE := Lib.hid (show j = n by omega)
      go_wp2
      go_ret
      have h1 := hm.out
      have h2 := HK.out
      have h3 := HL.out
      rw [HE.out] at h1 h2
      rw [← h3, List.take_length, h3] at h2
      refine ⟨by rw [h2]; rfl, ⟨by rw [mkAll_len]; exact h3, HW.out, fun _ => ⟨b, off, F, rfl, hlo, hhi, h1.done, ?_⟩⟩, hz⟩
      have hl : ∀ i, i < n → (pt (mkAll k0 l) i).zs.length = (pt l i).zs.length := fun i hi => by rw [mkAll_at k0 l i (by omega), mk1_len]
      exact ⟨fun i hi x hx hp => HS.out.1 i hi x hx (by rw [← hl i hi]; exact hp), fun i k hi hk hne x y hx hy hpx hpy => HS.out.2 i k hi hk hne x y hx hy (by rw [← hl i hi]; exact hpx) (by rw [← hl k hk]; exact hpy)⟩
end Go.Proofs.YtedjclnojocjkaaGreatDoor.Parts
