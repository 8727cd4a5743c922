/-
  The exact laws' helpers at a slice of pieces: marks that are written, and the test that they are held.
  Conditions: the pieces may be written, no two share memory.
-/
import Derived.Test.YtkjglmfnlpapbaaPcEq
namespace Go.Proofs.Ytkjglmfnlpapbaa.Pieces
open Go Go.RowKit Go.Proofs.Ytkjglmfnlpapbaa.Mem Go.Proofs.Ytkjglmfnlpapbaa.Adr Go.Proofs.Ytkjglmfnlpapbaa.Res

/-- What a mark leaves of a piece. -/
def mk1 (k0 : Nat) (P : Pc) : Pc := ⟨(k0 : Nat), (k0 + 1 : Nat), marks .i64 (k0 + 2) P.zs.length⟩
def mkAll : Nat → List Pc → List Pc
  | _, [] => []
  | k0, P :: l => mk1 k0 P :: mkAll (k0 + 2 + P.zs.length) l
theorem mkAll_len : ∀ (k0 : Nat) (l : List Pc), (mkAll k0 l).length = l.length
  | _, [] => rfl
  | k0, P :: l => by simp [mkAll, mkAll_len (k0 + 2 + P.zs.length) l]
theorem mk1_len (k0 : Nat) (P : Pc) : (mk1 k0 P).zs.length = P.zs.length := marks_len _ _ _
theorem mkAll_at : ∀ (k0 : Nat) (l : List Pc) (i : Nat), i < l.length → pc (mkAll k0 l) i = mk1 (k0 + 2 * i + bodies (l.take i)) (pc l i)
  | _, [], _, h => by simp at h
  | k0, P :: l, 0, _ => by simp [mkAll, pc, bodies]
  | k0, P :: l, i + 1, h => by
    have := mkAll_at (k0 + 2 + P.zs.length) l i (by simpa using h)
    simp only [List.take_succ_cons, bodies]
    rw [show k0 + 2 * (i + 1) + (P.zs.length + bodies (l.take i)) = k0 + 2 + P.zs.length + 2 * i + bodies (l.take i) by omega]
    simpa [mkAll, pc] using this
theorem mk1_wf {k0 : Nat} {P : Pc} (h : k0 + 1 + P.zs.length ≤ 9223372036854775807) : (mk1 k0 P).Wf := by
  refine ⟨?_, ?_⟩ <;> exact WalkArith.wf_i64 (by simp only [mk1]; omega)
theorem mkAll_wf : ∀ (k0 : Nat) (l : List Pc), k0 + 2 * l.length + bodies l ≤ 9223372036854775807 → ∀ P ∈ mkAll k0 l, P.Wf
  | _, [], _, P, h => by simp [mkAll] at h
  | k0, Q :: l, hb, P, h => by
    simp only [List.length_cons, bodies] at hb
    simp only [mkAll, List.mem_cons] at h
    rcases h with rfl | h
    · exact mk1_wf (by omega)
    · exact mkAll_wf _ l (by omega) P h

/-- A row in a block of its own. -/
theorem Own.alone {k : IntKind} {lo hi n : Nat} {w : World} {a : Option Addr} {zs : List Int} (h : Own k lo hi w a n zs) :
    ∃ x y, Own k x y w a n zs ∧ ∀ t, x ≤ t → t < y → 0 < n ∧ lo ≤ t ∧ t < hi ∧ ∃ ad, a = some ad ∧ ad.block = t := by
  rcases Nat.eq_zero_or_pos n with rfl | hp
  · exact ⟨0, 0, ⟨h.len, h.wf, fun h => absurd h (by omega)⟩, fun t _ ht => absurd ht (by omega)⟩
  · obtain ⟨b, off, rfl, h2, h3, h4⟩ := h.here hp
    exact ⟨b, b + 1, ⟨h.len, h.wf, fun _ => ⟨b, off, rfl, Nat.le_refl _, Nat.lt_succ_self _, h4⟩⟩, fun t h5 h6 => ⟨hp, by omega, by omega, _, rfl, by simp only; omega⟩⟩

/-- The pieces of which the first j are marked. -/
structure Inked (lo hi k0 b off n : Nat) (F : Nat → Body) (l : List Pc) (j : Nat) (w : World) : Prop where
  done : ∀ i, i < j → Held lo hi w b (off + i * 3) (pc (mkAll k0 l) i) (F i)
  rest : ∀ i, j ≤ i → i < n → Held lo hi w b (off + i * 3) (pc l i) (F i)

/-- What is written of one piece leaves every other piece as it was. -/
theorem Held.beside {lo hi b o o2 x y : Nat} {w w' : World} {P : Pc} {f : Body} (h : Held lo hi w b o P f) (hb : ∀ t, (t < o2 ∨ o2 + 3 ≤ t) → w'.cell? ⟨b, t, none⟩ = w.cell? ⟨b, t, none⟩) (hf : ∀ t, w'.frozen? ⟨b, t, none⟩ = w.frozen? ⟨b, t, none⟩)
    (hz : ∀ t, t < w.heap.size → t ≠ b → (t < x ∨ y ≤ t) → w'.heap[t]? = w.heap[t]?) (ho : o + 3 ≤ o2 ∨ o2 + 3 ≤ o) (hP : ∀ ad, f.1 = some ad → 0 < P.zs.length → ad.block ≠ b ∧ (ad.block < x ∨ y ≤ ad.block)) : Held lo hi w' b o P f := by
  obtain ⟨c0, c1, c2⟩ := h.cells
  refine ⟨⟨?_, ?_, ?_⟩, fun t ht => by rw [hf]; exact h.free t ht, ⟨h.body.len, h.body.wf, fun hp => ?_⟩, h.le, h.max⟩
  all_goals try (rw [hb _ (by omega)]; assumption)
  obtain ⟨g, off, e1, e2, e3, e4⟩ := h.body.here hp
  obtain ⟨h1, h2⟩ := hP _ e1 hp
  refine ⟨g, off, e1, e2, e3, fun t ht => ?_⟩
  have e := hz g (Mem.cell_lt (e4 t ht).1) h1 h2
  rw [Mem.cell_of_heap e, Mem.frozen_of_heap e]
  exact e4 t ht

/-- The world behind the two marks of a piece, ahead of its row's. -/
def ink0 (w : World) (b o : Nat) (k0 : Nat) : World := (w.setCell ⟨b, o, none⟩ (.int .i64 (k0 : Nat))).setCell ⟨b, o + 1, none⟩ (.int .i64 (k0 + 1 : Nat))
theorem ink0_eq (w : World) (b o k0 : Nat) : ink0 w b o k0 = (w.setCell ⟨b, o, none⟩ (.int .i64 (k0 : Int))).setCell ⟨b, o + 1, none⟩ (.int .i64 ((k0 : Int) + 1)) := rfl

theorem Inked.next {lo hi k0 b off n j x y k1 : Nat} {F : Nat → Body} {l : List Pc} {w w1 : World} (h : Inked lo hi k0 b off n F l j w) (hS : Sep b n F l) (hl : l.length = n) (hj : j < n) (hlo : lo ≤ b) (hhi : b < hi) (hk : k1 = k0 + 2 * j + bodies (l.take j))
    (hz : Zone x y (ink0 w b (off + j * 3) k1) w1) (hxy : ∀ t, x ≤ t → t < y → 0 < (pc l j).zs.length ∧ lo ≤ t ∧ t < hi ∧ ∃ ad, (F j).1 = some ad ∧ ad.block = t)
    (ho : Own .i64 x y w1 (F j).1 (pc l j).zs.length (marks .i64 (k1 + 2) (pc l j).zs.length)) :
    Inked lo hi k0 b off n F l (j + 1) w1 ∧ Zone lo hi w w1 := by
  have hH := h.rest j (Nat.le_refl _) hj
  have hbw := hH.cells.lt
  have hs0 : (ink0 w b (off + j * 3) k1).heap.size = w.heap.size := by simp [ink0, World.setCell]
  have hbx : b < x ∨ y ≤ b := by
    rcases Nat.lt_or_ge b x with h1 | h1
    · exact .inl h1
    · rcases Nat.lt_or_ge b y with h2 | h2
      · obtain ⟨h3, _, _, ad, h4, h5⟩ := hxy b h1 h2
        exact absurd h5 (hS.1 j hj ad h4 h3)
      · exact .inr h2
  have e0 : w1.heap[b]? = (ink0 w b (off + j * 3) k1).heap[b]? := hz.block b (by rw [hs0]; exact hbw) hbx
  have k1c : ∀ t, w1.cell? ⟨b, t, none⟩ = (ink0 w b (off + j * 3) k1).cell? ⟨b, t, none⟩ := fun t => Mem.cell_of_heap e0
  have kf : ∀ t, w1.frozen? ⟨b, t, none⟩ = w.frozen? ⟨b, t, none⟩ := fun t => by
    rw [Mem.frozen_of_heap e0]; simp [ink0, World.frozen?_setCell]
  have kc : ∀ t, (t < off + j * 3 ∨ off + j * 3 + 3 ≤ t) → w1.cell? ⟨b, t, none⟩ = w.cell? ⟨b, t, none⟩ := fun t ht => by
    rw [k1c]
    unfold ink0
    rw [cell_set_ne _ (by omega), cell_set_ne _ (by omega)]
  have kz : ∀ t, t < w.heap.size → t ≠ b → (t < x ∨ y ≤ t) → w1.heap[t]? = w.heap[t]? := fun t ht hne hxy' => by
    rw [hz.block t (by rw [hs0]; exact ht) hxy']
    unfold ink0
    rw [Below.heap_setCell _ _ _ _ hne, Below.heap_setCell _ _ _ _ hne]
  have hlen : ∀ i, i < n → (pc (mkAll k0 l) i).zs.length = (pc l i).zs.length := fun i hi => by rw [mkAll_at k0 l i (by omega), mk1_len]
  have hP : ∀ i, i < n → i ≠ j → ∀ ad, (F i).1 = some ad → 0 < (pc l i).zs.length → ad.block ≠ b ∧ (ad.block < x ∨ y ≤ ad.block) := fun i hi hne ad hA hp => by
    refine ⟨hS.1 i hi ad hA hp, ?_⟩
    rcases Nat.lt_or_ge ad.block x with h1 | h1
    · exact .inl h1
    · rcases Nat.lt_or_ge ad.block y with h2 | h2
      · obtain ⟨h3, _, _, ad2, h4, h5⟩ := hxy ad.block h1 h2
        exact absurd h5.symm (hS.2 i j hi hj hne ad ad2 hA h4 hp h3)
      · exact .inr h2
  have hHj : Held lo hi w1 b (off + j * 3) (mk1 k1 (pc l j)) (F j) := by
    obtain ⟨c0, c1, c2⟩ := hH.cells
    refine ⟨⟨?_, ?_, ?_⟩, fun t ht => by rw [kf]; exact hH.free t ht, ⟨rfl, fun z hz => (ho.wf z hz), fun hp => ?_⟩, by rw [mk1_len]; exact hH.le, hH.max⟩
    · rw [k1c]
      unfold ink0
      rw [cell_set_ne _ (by omega), World.cell?_setCell_same _ _ _ c0]
      rfl
    · rw [k1c]
      unfold ink0
      rw [World.cell?_setCell_same _ _ _ (by rw [cell_set_ne _ (by omega)]; exact c1)]
      rfl
    · rw [k1c]
      unfold ink0
      rw [cell_set_ne _ (by omega), cell_set_ne _ (by omega)]
      rw [mk1_len]
      exact c2
    · rw [mk1_len] at hp
      obtain ⟨g, o', e1, e2, e3, e4⟩ := ho.here hp
      obtain ⟨_, h1, h2, _⟩ := hxy g e2 e3
      refine ⟨g, o', e1, h1, h2, fun t ht => ?_⟩
      rw [mk1_len] at ht
      exact e4 t ht
  refine ⟨⟨fun i hi => ?_, fun i hi hin => ?_⟩, ?_⟩
  · by_cases he : i = j
    · subst he
      rw [mkAll_at k0 l i (by omega), ← hk]
      exact hHj
    · have hi' : i < j := by omega
      exact (h.done i hi').beside kc kf kz (by omega) (fun ad hA hp => hP i (by omega) he ad hA (by rw [← hlen i (by omega)]; exact hp))
  · exact (h.rest i (by omega) hin).beside kc kf kz (by omega) (hP i hin (by omega))
  · have z0 : Zone lo hi w (ink0 w b (off + j * 3) k1) := by
      unfold ink0
      exact ((Zone.refl _ _ _).setCell ⟨hlo, hhi⟩ _).setCell ⟨hlo, hhi⟩ _
    have z1 : Zone lo hi (ink0 w b (off + j * 3) k1) w1 := ⟨hz.os, hz.tape, hz.output, hz.size, fun k hk hne => hz.block k hk (by
      rcases Nat.lt_or_ge k x with h1 | h1
      · exact .inl h1
      · rcases Nat.lt_or_ge k y with h2 | h2
        · obtain ⟨_, h3, h4, _⟩ := hxy k h1 h2
          omega
        · exact .inr h2)⟩
    exact z0.trans z1

set_option maxHeartbeats 1600000 in
set_option maxRecDepth 100000 in
theorem mark_pieces (lo hi k0 : Nat) (w : World) (a : Option Addr) (n c : Nat) (l : List Pc) (h : COwn lo hi w a n l) (hk : k0 + 2 * n + bodies l ≤ 1125899906842624) :
    Calls Try.prog 21 #[.slice a n c, .int .i64 k0] w fun e w' => e = .returned (.int .i64 ((k0 + 2 * n + bodies l : Nat) : Int)) ∧ COwn lo hi w' a n (mkAll k0 l) ∧ Zone lo hi w w' := by
  have hlen := h.len
  rcases Nat.eq_zero_or_pos n with rfl | hpos
  · obtain rfl : l = [] := List.eq_nil_of_length_eq_zero hlen
    go_enter Try.func21, Try.ntmps21
    go_wp2
    refine wp_loop_rounds 1 ?_
    rw [rounds_succ]
    go_wp2
    go_ret
    exact ⟨rfl, COwn.nil _ _ _ _, Zone.refl _ _ _⟩
  obtain ⟨b, off, F, rfl, hlo, hhi, hc, hS⟩ := h.here hpos
  have hm0 : Hid (Inked lo hi k0 b off n F l 0 w) := ⟨fun i hi => absurd hi (by omega), fun i _ hi => hc i hi⟩
  have hnb : n ≤ 1125899906842624 := by omega
  have HS := Lib.hid hS
  have HW := Lib.hid (mkAll_wf k0 l (by rw [hlen]; omega))
  have HM := Lib.hid hk
  have HL := Lib.hid hlen
  clear hc h hS hk hlen
  go_enter Try.func21, Try.ntmps21
  go_wp2
  go_loopw [1, 5] (fun k i wr => ∃ j kk : Nat, j ≤ n ∧ i = .int .i64 j ∧ k = .int .i64 kk ∧ Hid (kk = k0 + 2 * j + bodies (l.take j)) ∧ kk ≤ 1125899906842624 ∧ Hid (Inked lo hi k0 b off n F l j wr) ∧ Zone lo hi w wr) (fun _ i _ => n - (intOf i).toNat)
  case atStart => exact ⟨0, k0, Nat.zero_le _, rfl, rfl, by simp [bodies, Hid], by have := HM.out; omega, hm0, Zone.refl _ _ _⟩
  case round =>
    obtain ⟨j, kk, hj, rfl, rfl, HK, hkk, hm, hz⟩ := hrel
    clear hm0
    by_cases hlt : j < n
    · have hH := hm.out.rest j (Nat.le_refl _) hlt
      obtain ⟨c0, c1, c2⟩ := hH.cells
      have g0 := hH.free 0 (by omega)
      have g1 := hH.free 1 (by omega)
      have g2 := hH.free 2 (by omega)
      rw [Nat.add_zero] at g0
      obtain ⟨x, y, hO, hxy⟩ := Own.alone hH.body
      have hbd : bodies (l.take j) + (pc l j).zs.length ≤ bodies l := by
        have h1 := bodies_take l j (by have := HL.out; omega)
        have h2 := bodies_le l (j + 1)
        omega
      have hlm : (pc l j).zs.length + (kk + 2) ≤ 9223372036854775807 := by have := HM.out; omega
      have hbx : ∀ i, x ≤ i → i < y → i ≠ b := fun i h1 h2 e => by
        obtain ⟨h3, _, _, ad, h4, h5⟩ := hxy i h1 h2
        exact HS.out.1 j hlt ad h4 h3 (h5.trans e)
      have hO1 : Own .i64 x y (ink0 wr b (off + j * 3) kk) (F j).1 (pc l j).zs.length (pc l j).zs := hO.keep fun i _ h1 h2 => by
        have hne : i ≠ b := hbx i h1 h2
        rw [ink0_eq, Below.heap_setCell _ _ _ _ hne, Below.heap_setCell _ _ _ _ hne]
      have hM := Nts.mark_any x y (kk + 2) _ (F j).1 (pc l j).zs.length (F j).2 (pc l j).zs hO1 hlm
      rw [ink0_eq, show ((kk + 2 : Nat) : Int) = (kk : Int) + 1 + 1 by omega] at hM
      obtain ⟨r, hr⟩ : ∃ r : Int, r = ((kk + 2 + (pc l j).zs.length : Nat) : Int) := ⟨_, rfl⟩
      rw [← hr] at hM
      have hr0 : 0 ≤ r := by omega
      have hr1 : r ≤ 1125899906842630 := by have := HM.out; have := HK.out; omega
      have HR := Lib.hid hr
      have HX := Lib.hid hxy
      have HB := Lib.hid hbd
      clear hr hbd hO hO1 hxy hlm hbx
      go_wp2_with fail
      go_at_call 20
      refine hM.mono ?_
      rintro e w1 ⟨rfl, hO2, hz1⟩
      rw [← ink0_eq] at hz1
      clear c0 c1 c2 g0 g1 g2 hM hH
      obtain ⟨hin, hzn⟩ := hm.out.next HS.out HL.out hlt hlo hhi HK.out hz1 HX.out hO2
      have HI := Lib.hid hin
      clear hin hO2
      go_wp2
      go_roundw
      case rel =>
        refine ⟨j + 1, kk + 2 + (pc l j).zs.length, by omega, by go_num, ?_, ?_, ?_, HI, hz.trans hzn⟩
        · have := HR.out
          rw [show ((kk + 2 + (pc l j).zs.length : Nat) : Int) = r by omega]
        · have h1 := HK.out
          have h2 := bodies_take l j (by have := HL.out; omega)
          show _ = _
          omega
        · have h1 := HK.out
          have h2 := HB.out
          have h3 := HM.out
          omega
      case measure => simp [intOf]; omega
    · have hd : decide ((j : Int) < (n : Int)) = false := by simp; omega
      have HE := Lib.hid (show j = n by omega)
      go_wp2
      go_ret
      have h1 := hm.out
      have h2 := HK.out
      have h3 := HL.out
      rw [HE.out] at h1 h2
      rw [← h3, List.take_length, h3] at h2
      refine ⟨by rw [h2]; rfl, ⟨by rw [mkAll_len]; exact h3, HW.out, fun _ => ⟨b, off, F, rfl, hlo, hhi, h1.done, ?_⟩⟩, hz⟩
      have hl : ∀ i, i < n → (pc (mkAll k0 l) i).zs.length = (pc l i).zs.length := fun i hi => by rw [mkAll_at k0 l i (by omega), mk1_len]
      exact ⟨fun i hi x hx hp => HS.out.1 i hi x hx (by rw [← hl i hi]; exact hp), fun i k hi hk hne x y hx hy hpx hpy => HS.out.2 i k hi hk hne x y hx hy (by rw [← hl i hi]; exact hpx) (by rw [← hl k hk]; exact hpy)⟩

set_option maxHeartbeats 1600000 in
set_option maxRecDepth 100000 in
theorem held_pieces (lo hi k0 : Nat) (w : World) (a : Option Addr) (n c : Nat) (l : List Pc) (h : CRow lo hi w a n (mkAll k0 l)) (hk : k0 + 2 * n + bodies l ≤ 1125899906842624) :
    Calls Try.prog 22 #[.slice a n c, .int .i64 k0] w fun e w' => e = .returned (.int .i64 ((k0 + 2 * n + bodies l : Nat) : Int)) ∧ ∃ m, w' = w.drewN m := by
  have hlen : l.length = n := by rw [← mkAll_len k0 l]; exact h.len
  have hnb : n ≤ 1125899906842624 := by omega
  have HM := Lib.hid hk
  have HL := Lib.hid hlen
  have HA := Lib.hid (mkAll_at k0 l)
  clear hk hlen
  go_enter Try.func22, Try.ntmps22
  go_wp2
  go_loopw [1, 5] (fun k i wr => ∃ j kk m : Nat, j ≤ n ∧ i = .int .i64 j ∧ k = .int .i64 kk ∧ Hid (kk = k0 + 2 * j + bodies (l.take j)) ∧ kk ≤ 1125899906842624 ∧ wr = w.drewN m) (fun _ i _ => n - (intOf i).toNat)
  case atStart => exact ⟨0, k0, 0, Nat.zero_le _, rfl, rfl, by simp [bodies, Hid], by have := HM.out; omega, rfl⟩
  case round =>
    obtain ⟨j, kk, m, hj, rfl, rfl, HK, hkk, rfl⟩ := hrel
    by_cases hlt : j < n
    · obtain ⟨b, off, A, cc, rfl, _, _, q, hla, _⟩ := (h.drewN m).at hlt
      rw [HA.out j (by have := HL.out; omega), ← HK.out] at q hla
      have hbd : bodies (l.take j) + (pc l j).zs.length ≤ bodies l := by
        have h1 := bodies_take l j (by have := HL.out; omega)
        have h2 := bodies_le l (j + 1)
        omega
      have HB := Lib.hid hbd
      have hrow := hla.row
      rw [mk1_len] at hrow
      obtain ⟨zl, hzl⟩ : ∃ zl, (pc l j).zs.length = zl := ⟨_, rfl⟩
      have hzb : zl + kk + 2 ≤ 1125899906842640 := by have h1 := HM.out; have h2 := HK.out; omega
      obtain ⟨c0, c1, c2⟩ := q
      rw [mk1_len] at c2
      simp only [mk1] at c0 c1 c2 hrow
      rw [hzl] at c2 hrow
      have HZ := Lib.hid hzl
      have hM := Nts.held_any lo hi (kk + 2) (w.drewN m) A zl cc hrow (by omega)
      obtain ⟨r, hr⟩ : ∃ r : Int, r = ((kk + 2 + zl : Nat) : Int) := ⟨_, rfl⟩
      rw [← hr, show ((kk + 2 : Nat) : Int) = (kk : Int) + 1 + 1 by omega] at hM
      rw [show ((kk + 1 : Nat) : Int) = (kk : Int) + 1 by omega] at c1
      have hd : decide (r < 0) = false := by simp; omega
      have hr0 : 0 ≤ r := by omega
      have hr1 : r ≤ 1125899906842640 := by omega
      have HR := Lib.hid hr
      clear hbd hrow hla hzl hzb hr
      go_wp2_with fail
      go_at_call 26
      refine hM.mono ?_
      rintro e w1 ⟨rfl, m1, rfl⟩
      clear hM c0 c1 c2
      go_wp2
      go_roundw
      case rel =>
        refine ⟨j + 1, kk + 2 + zl, m + m1, by omega, by go_num, ?_, ?_, ?_, by first | rfl | (simp [World.drewN_drewN]) ⟩
        · have := HR.out
          rw [show ((kk + 2 + zl : Nat) : Int) = r by omega]
        · have h1 := HK.out
          have h2 := bodies_take l j (by have := HL.out; omega)
          have h3 := HZ.out
          show _ = _
          omega
        · have h1 := HK.out
          have h2 := HB.out
          have h3 := HM.out
          have h4 := HZ.out
          omega
      case measure => simp [intOf]; omega
    · have hd : decide ((j : Int) < (n : Int)) = false := by simp; omega
      have HE := Lib.hid (show j = n by omega)
      go_wp2
      go_ret
      have h2 := HK.out
      have h3 := HL.out
      rw [HE.out] at h2
      rw [← h3, List.take_length, h3] at h2
      exact ⟨by rw [h2]; rfl, m, rfl⟩
end Go.Proofs.Ytkjglmfnlpapbaa.Pieces
