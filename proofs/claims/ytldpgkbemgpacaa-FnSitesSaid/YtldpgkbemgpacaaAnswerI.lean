/-
  What the versions of one address answer at a tick: the program's method, a range over slices.Backward that returns.
  Conditions: the versions lie in memory, with 2^20 numbers at most each.
-/
import Derived.Test.YtldpgkbemgpacaaBack
import Derived.Test.YtldpgkbemgpacaaClone
namespace Go.Proofs.Ytldpgkbemgpacaa.Sites
open Go Go.RowKit Go.Shelf Go.Proofs.Ytldpgkbemgpacaa.Mem Go.Proofs.Ytldpgkbemgpacaa.Gen Go.Proofs.Ytldpgkbemgpacaa.Adr Go.Proofs.Ytldpgkbemgpacaa.Res
attribute [local go_sem] Oper.semAt_some

theorem late_none {p : List TVersion} {t : Int} (h : ∀ i, i < p.length → decide ((p.getD i nVersion).f1 ≤ t) = false) : answerIn p t = noneR := by
  have h1 : ∀ k, k ≤ p.length → answerIn (p.take k) t = noneR := by
    intro k
    induction k with
    | zero => intro _; rfl
    | succ k ih => intro hk; rw [back_no (by omega) (h k (by omega))]; exact ih (by omega)
  have := h1 p.length (Nat.le_refl _)
  rwa [List.take_length] at this
theorem late_hit {p : List TVersion} {t : Int} {i : Nat} (hi : i < p.length) (h0 : decide ((p.getD i nVersion).f1 ≤ t) = true) (h : ∀ m, i < m → m < p.length → decide ((p.getD m nVersion).f1 ≤ t) = false) : answerIn p t = (p.getD i nVersion).f2 := by
  have h1 : ∀ k, i + 1 + k ≤ p.length → answerIn (p.take (i + 1 + k)) t = (p.getD i nVersion).f2 := by
    intro k
    induction k with
    | zero => intro _; exact back_yes hi h0
    | succ k ih => intro hk; rw [show i + 1 + (k + 1) = (i + 1 + k) + 1 by omega, back_no (by omega) (h _ (by omega) (by omega))]; exact ih (by omega)
  have := h1 (p.length - (i + 1)) (by omega)
  rwa [show i + 1 + (p.length - (i + 1)) = p.length by omega, List.take_length] at this
theorem blk_own {β : Type} (B : Nat) (T : TypeId) (f : β → List Value) : Own (fun s W => Blk T B (f s) W) := fun s X Y row hs hg hrow =>
  (hg.block B hs.lt (fun e' => by obtain ⟨o, ho, hc⟩ := hrow B e'.symm; rw [show X.heap[B]? = _ from hs] at ho; cases ho; cases hc)).trans hs
theorem own_own {β : Type} (lo hi : Nat) (a : β → Option Addr) (n : β → Nat) (zs : β → List Int) : Own (fun s W => Mem.Own .i64 lo hi W (a s) (n s) (zs s)) := fun s X Y row hs hg hrow =>
  ⟨hs.len, hs.wf, fun hn => by
    obtain ⟨b, off, e1, e2, e3, e4⟩ := hs.here hn
    have e : Y.heap[b]? = X.heap[b]? := hg.block b (Mem.cell_lt (e4 0 hn).1) (fun e' => by
      obtain ⟨o, ho, hc⟩ := hrow b e'.symm
      have h0 := (e4 0 hn).1
      unfold World.cell? at h0
      simp only [ho] at h0
      cases o <;> simp_all [Obj.isCells])
    exact ⟨b, off, e1, e2, e3, fun j hj => ⟨by rw [Mem.cell_of_heap e]; exact (e4 j hj).1, by rw [Mem.frozen_of_heap e]; exact (e4 j hj).2⟩⟩⟩
theorem from_below {B : Nat} {W W' : World} (h : Below W.heap.size W W') : KeepsFrom B W W' := ⟨h.size, fun k _ _ hk _ => (h.block k (Array.getElem?_eq_some_iff.1 hk).1).trans hk⟩
theorem downs_at {len k : Nat} (hk : k ≤ len) {m : Nat} (hm : len - k ≤ m) (hml : m < len) : m ∈ downs len k := by
  simp only [downs, List.mem_map, List.mem_range]
  exact ⟨len - 1 - m, by omega, by omega⟩

set_option maxRecDepth 100000 in
set_option maxHeartbeats 8000000 in
theorem past_answer (lo hi : Nat) (w : World) (A : Option Addr) (cap : Nat) (p : List TVersion) (h : Lies lo hi w (dVersion p) (.slice A p.length cap)) (hh : hi ≤ w.heap.size) (hsm : p.length ≤ 1048576) (hm : ∀ i, i < p.length → (p.getD i nVersion).f2.f1.length ≤ 1048576) (t : Int) :
    Calls Try.prog 42 #[.slice A p.length cap, .int .i64 t] w fun e w' => ∃ (a : Option Addr) (d : Nat), e = .returned (.agg #[.int .i64 (answerIn p t).f0, .slice a (answerIn p t).f1.length d, .int .i64 (answerIn p t).f2.f0, .int .i64 (answerIn p t).f2.f1, .int .i64 (answerIn p t).f2.f2]) ∧ OwnD w.heap.size w'.heap.size w' (ints (answerIn p t).f1) (.slice a (answerIn p t).f1.length d) ∧ Below w.heap.size w w' := by
  obtain ⟨len, hlen⟩ : ∃ len, p.length = len := ⟨_, rfl⟩
  obtain ⟨a, c, hL, hB5⟩ := lined_of h
  have hnone := late_none (p := p) (t := t)
  have hhit := fun i => late_hit (p := p) (t := t) (i := i)
  obtain ⟨R, hR⟩ : ∃ R, answerIn p t = R := ⟨_, rfl⟩
  rw [hR] at hnone ⊢
  simp only [hR] at hhit
  rw [hlen] at h hsm hm hB5 hnone hhit ⊢
  have HNONE := Lib.hid hnone
  have HHIT := Lib.hid hhit
  clear hnone hhit hR
  obtain ⟨O1, hO1⟩ : ∃ O, O = Obj.cells #[Value.int .i64 t] 3 (0, 0) := ⟨_, rfl⟩
  obtain ⟨O2, hO2⟩ : ∃ O, O = Obj.cells (resCells ⟨0, [], ⟨0, 0, 0⟩⟩ none 0).toArray 31 (0, 0) := ⟨_, rfl⟩
  obtain ⟨O3, hO3⟩ : ∃ O, O = Obj.cells #[Value.slice A len cap] 61 (0, 0) := ⟨_, rfl⟩
  obtain ⟨W0, hW0⟩ : ∃ W0, ((w.alloc O1).alloc O2).alloc O3 = W0 := ⟨_, rfl⟩
  have hB0 : Below w.heap.size w W0 := by rw [← hW0]; repeat' (first | exact Below.refl _ _ | assumption | refine Below.setCell ?_ ?_ _ | refine Below.alloc ?_ ?_ _ | refine Gen.gbelow_drewN ?_ _ | refine Below.drew ?_ | exact Nat.le_refl _ | omega | (dsimp only; omega) | refine Gen.gle_alloc ?_ | refine Gen.gle_set ?_ | refine Gen.gle_drewN ?_ | refine Gen.gle_drew ?_)
  have hS0 : W0.heap.size = w.heap.size + 3 := by rw [← hW0]; simp only [gsize_alloc]
  have bT : Boxed W0 w.heap.size 3 (.int .i64 t) := by rw [← hW0, hO1]; exact ((Boxed.new w _ _).alloc _).alloc _
  have bR : Blk 31 (w.heap.size + 1) (resCells ⟨0, [], ⟨0, 0, 0⟩⟩ none 0) W0 := by rw [← hW0]; have := (Blk.new 31 (resCells ⟨0, [], ⟨0, 0, 0⟩⟩ none 0) (w.alloc O1)).alloc O3; rw [gsize_alloc] at this; rw [hO2]; exact this
  have bS : Boxed W0 (w.heap.size + 2) 61 (.slice A len cap) := by rw [← hW0, hO3]; have := Boxed.new ((w.alloc O1).alloc O2) 61 (.slice A len cap); simp only [gsize_alloc] at this; exact this
  have hseq := backward_stops Fence.wide 3 trivial rfl (by omega) (w.heap.size + 2) cap len A p a c hlen hsm W0 (by omega) bS.cell (fun j hj => by
    obtain ⟨b, off, e, hb, hc⟩ := hL j hj
    exact ⟨b, off, e, by omega, hc.keep (hB0.block b (by omega))⟩)
  have hB5' : ∀ j, j < len → Lies lo hi W0 (ints (p.getD j nVersion).f2.f1) (.slice (a j) (p.getD j nVersion).f2.f1.length (c j)) := fun j hj => (hB5 j hj).under hB0 hh
  have HB5 := Lib.hid hB5'
  have HM := Lib.hid hm
  clear hB5 hB5' hm hL h hlen
  refine (callsIn_wide (n := 4)).1 ?_
  refine callsIn_of_wp_marks Try.func42 rfl trivial ?_ rfl
  simp only [Try.ntmps42, List.size_toArray, List.length_cons, List.length_nil, Nat.reduceAdd, Nat.reduceSub, Array.replicate_succ, Array.replicate_zero, List.push_toArray, List.append_toArray, List.nil_append, List.cons_append]
  gi_wp2_with (refine ⟨trivial, ?_⟩; gi_at_call 65; refine (backward_in Fence.wide 3 trivial rfl _ _ _ _).mono ?_; rintro e w' ⟨rfl, rfl⟩)
  have hW0' : ((w.alloc (.cells #[.int .i64 t] 3)).alloc (.cells #[.int .i64 0, .slice none 0 0, .int .i64 0, .int .i64 0, .int .i64 0] 31)).alloc (.cells #[.slice A len cap] 61) = W0 := by rw [← hW0, hO1, hO2, hO3]; rfl
  rw [hW0']
  clear hW0 hW0' hO1 hO2 hO3 O1 O2 O3 bS
  have HR := Lib.hid (show ∀ i, i < len → (p.getD i nVersion).f2.f1.length ≤ 1048576 from HM.out)
  refine wpIn_rangeFunc_ownH rfl (by omega) (gf := 78) (lb := #[.pointer (some ⟨w.heap.size + 2, 0, none⟩)]) rfl trivial (enters_of Try.func78 (by kernel_rfl) rfl)
    hseq belowK_t (belowK_b (by omega)) (Below.refl _ _) (fun _ => rfl)
    (fun pre W => ((∀ x ∈ pre, decide ((p.getD x.1 nVersion).f1 ≤ t) = false) ∧ Boxed W w.heap.size 3 (.int .i64 t) ∧ Blk 31 (w.heap.size + 1) (resCells ⟨0, [], ⟨0, 0, 0⟩⟩ none 0) W) ∧ Below W0.heap.size W0 W)
    (fun cd pre W => ((cd = .ret ∧ ∃ ini last, pre = ini ++ [last] ∧ (∀ x ∈ ini, decide ((p.getD x.1 nVersion).f1 ≤ t) = false) ∧ decide ((p.getD last.1 nVersion).f1 ≤ t) = true ∧ ∃ aa d hi', Blk 31 (w.heap.size + 1) (resCells (p.getD last.1 nVersion).f2 aa d) W ∧ Mem.Own .i64 (w.heap.size + 3) hi' W aa (p.getD last.1 nVersion).f2.f1.length (p.getD last.1 nVersion).f2.f1 ∧ (p.getD last.1 nVersion).f2.f1.length ≤ d ∧ d ≤ maxLen ∧ hi' ≤ W.heap.size)) ∧ Below w.heap.size w W)
    (OwnFrom.and (fun s X Y row hs hg hr => ⟨hs.1, boxed_own _ _ (fun (_ : Unit) => Value.int .i64 t) () X Y row hs.2.1 hg (fun r e => (hr r e).2), blk_own _ _ (fun (_ : Unit) => resCells ⟨0, [], ⟨0, 0, 0⟩⟩ none 0) () X Y row hs.2.2 hg (fun r e => (hr r e).2)⟩) (ownFrom_below (Nat.le_refl _) (Nat.le_refl _)))
    (fun cd => OwnFrom.and (fun s X Y row hs hg hr => by
      obtain ⟨e0, ini, last, e1, e2, e3, aa, d, hi', e4, e5, e6, e7, e8⟩ := hs
      exact ⟨e0, ini, last, e1, e2, e3, aa, d, hi', blk_own _ _ (fun (_ : Unit) => resCells (p.getD last.1 nVersion).f2 aa d) () X Y row e4 hg (fun r e => (hr r e).2), own_own _ _ (fun (_ : Unit) => aa) (fun _ => _) (fun _ => _) () X Y row e5 hg (fun r e => (hr r e).2), e6, e7, Nat.le_trans e8 hg.size⟩) (ownFrom_below (by omega) (by omega)))
    ⟨⟨by simp, bT, bR⟩, Below.refl _ _⟩
    (fun x a' W => ∃ Bx, W0.heap.size ≤ Bx ∧ Blk 70 Bx (verCells (p.getD x.1 nVersion) (a x.1) (c x.1)) W ∧ a' = { tmps := #[.slice A len cap, .int .i64 t, undef, .pointer (some ⟨w.heap.size, 0, none⟩), .pointer (some ⟨w.heap.size + 1, 0, none⟩), undef, .pointer (some ⟨Bx, 0, none⟩), .slice A len cap, .func (.func 78) #[] #[.pointer (some ⟨w.heap.size + 2, 0, none⟩)], .int .i64 (x.1 : Int), .agg (verCells (p.getD x.1 nVersion) (a x.1) (c x.1)).toArray, undef, undef, undef, undef, undef, undef, undef, undef], defers := [] })
    (fun x a' _ X Y row hs hg hr => by obtain ⟨Bx, h1, h2, h3⟩ := hs; exact ⟨Bx, h1, blk_own _ _ (fun (_ : Unit) => verCells (p.getD x.1 nVersion) (a x.1) (c x.1)) () X Y row h2 hg (fun r e => (hr r e).2), h3⟩)
    ?assign ?body ?done ?stop
  case assign =>
    rintro l pre x W K ⟨⟨h1, bT1, bR1⟩, hB1⟩ hK
    have hz := hB1.size
    have hK' := hK _ _ ((KeepsOthers.alloc W (.cells (verCells (p.getD x.1 nVersion) (a x.1) (c x.1)).toArray 70)).from _) ((Below.refl _ W).alloc hz _) ⟨⟨h1, bT1.alloc _, bR1.alloc _⟩, hB1.alloc hz _⟩ ⟨W.heap.size, hz, Blk.new _ _ W, rfl⟩
    simp only [enc]
    obtain ⟨V, hV⟩ : ∃ V, p.getD x.1 nVersion = V := ⟨_, rfl⟩
    rw [hV] at hK' ⊢
    simp only [verCells] at hK'
    clear hK hV
    gi_wp2
    exact hK'
  case body =>
    rintro l pre x a' W hl hlr ⟨⟨h1, bT1, bR1⟩, hB1⟩ ⟨Bx, hBx, bX, rfl⟩ hlt
    have hz := hB1.size
    obtain ⟨V, hV⟩ : ∃ V, p.getD x.1 nVersion = V := ⟨_, rfl⟩
    have hLV := HB5.out x.1 x.2
    have hmV := HM.out x.1 x.2
    rw [hV] at hLV hmV bX ⊢
    obtain ⟨hrow, _, _⟩ := (hLV.below hB1).row'
    have cT := bT1.cell
    have x3 : W.cell? ⟨Bx, 3, none⟩ = some (.int .i64 V.f1) := bX.at rfl
    have x4 : W.cell? ⟨Bx, 4, none⟩ = some (.int .i64 V.f2.f0) := bX.at rfl
    have x5 : W.cell? ⟨Bx, 5, none⟩ = some (.slice (a x.1) V.f2.f1.length (c x.1)) := bX.at rfl
    have x6 : W.cell? ⟨Bx, 6, none⟩ = some (.int .i64 V.f2.f2.f0) := bX.at rfl
    have x7 : W.cell? ⟨Bx, 7, none⟩ = some (.int .i64 V.f2.f2.f1) := bX.at rfl
    have x8 : W.cell? ⟨Bx, 8, none⟩ = some (.int .i64 V.f2.f2.f2) := bX.at rfl
    simp only [verCells]
    by_cases hit : V.f1 ≤ t
    · have hd : decide (V.f1 ≤ t) = true := by simpa using hit
      have hC := copy_res lo hi V.f2.f0 V.f2.f2.f0 V.f2.f2.f1 V.f2.f2.f2 W (a x.1) V.f2.f1.length (c x.1) V.f2.f1 hrow hmV
      gi_wp2_with (refine ⟨trivial, ?_⟩; gi_at_call 66; refine (CallsIn.inRound l (callsIn_wide.2 hC)).mono ?_; rintro e w1 ⟨x1, y1, rfl, ho1, hk1, hk2, hb1⟩; have bR2 := bR1.below hb1; have r0 : w1.cell? ⟨w.heap.size + 1, 0, none⟩ = some (.int .i64 0) := bR2.at rfl; have r1 : w1.cell? ⟨w.heap.size + 1, 1, none⟩ = some (.slice none 0 0) := bR2.at rfl; have r2 : w1.cell? ⟨w.heap.size + 1, 2, none⟩ = some (.int .i64 0) := bR2.at rfl; have r3 : w1.cell? ⟨w.heap.size + 1, 3, none⟩ = some (.int .i64 0) := bR2.at rfl; have r4 : w1.cell? ⟨w.heap.size + 1, 4, none⟩ = some (.int .i64 0) := bR2.at rfl; have p0 := bR2.free 0; have p1 := bR2.free 1; have p2 := bR2.free 2; have p3 := bR2.free 3; have p4 := bR2.free 4)
      have qF := ((((bR2.set 0 (.int .i64 V.f2.f0)).set 1 (.slice x1 V.f2.f1.length y1)).set 2 (.int .i64 V.f2.f2.f0)).set 3 (.int .i64 V.f2.f2.f1)).set 4 (.int .i64 V.f2.f2.f2)
      have hz1 := hb1.size
      refine ⟨?_, ⟨rfl, pre, x, rfl, h1, by rw [hV]; exact hd, x1, y1, w1.heap.size, by rw [hV]; exact qF, ?_, by rw [hV]; exact hk1, hk2, by simp only [gsize_set]; exact Nat.le_refl _⟩, ?_⟩
      · exact (((((from_below hb1).trans ((KeepsOthers.setCell _ _ _).from _)).trans ((KeepsOthers.setCell _ _ _).from _)).trans ((KeepsOthers.setCell _ _ _).from _)).trans ((KeepsOthers.setCell _ _ _).from _)).trans ((KeepsOthers.setCell _ _ _).from _)
      · rw [hV]
        refine (ho1.more (by omega) (Nat.le_refl _)).zone (lo' := 0) (hi' := w.heap.size + 3) ?_ (Or.inr (Nat.le_refl _))
        iterate 5 (refine Zone.setCell ?_ ⟨by omega, by omega⟩ _)
        exact Zone.refl _ _ _
      · iterate 5 (refine Below.setCell ?_ (by dsimp only; omega) _)
        exact hB0.trans ((hB1.trans (hb1.mono hz)).mono (by omega))
    · have hd : decide (V.f1 ≤ t) = false := by simpa using hit
      have hall : ∀ y ∈ pre ++ [x], decide ((p.getD y.1 nVersion).f1 ≤ t) = false := fun y hy => by
        rcases List.mem_append.1 hy with hy | hy
        · exact h1 y hy
        · rw [List.mem_singleton.1 hy, hV]; exact hd
      gi_wp2
      exact ⟨KeepsFrom.refl _ _, Below.refl _ _, ⟨by simpa using hall, bT1, bR1⟩, by rw [← hS0]; exact hB1⟩
  case done =>
    rintro D xs W hD hxs ⟨⟨h1, bT1, bR1⟩, hB1⟩ hK
    have hn0 := HNONE.out fun i hi => by
      have hmem : i ∈ xs.map (fun x => x.1) := by rw [hxs]; exact downs_at (Nat.le_refl _) (by omega) hi
      obtain ⟨x, hx, e⟩ := List.mem_map.1 hmem
      have := h1 x hx
      rwa [e] at this
    subst hn0
    have r0 : W.cell? ⟨w.heap.size + 1, 0, none⟩ = some (.int .i64 0) := bR1.at rfl
    have r1 : W.cell? ⟨w.heap.size + 1, 1, none⟩ = some (.slice none 0 0) := bR1.at rfl
    have r2 : W.cell? ⟨w.heap.size + 1, 2, none⟩ = some (.int .i64 0) := bR1.at rfl
    have r3 : W.cell? ⟨w.heap.size + 1, 3, none⟩ = some (.int .i64 0) := bR1.at rfl
    have r4 : W.cell? ⟨w.heap.size + 1, 4, none⟩ = some (.int .i64 0) := bR1.at rfl
    have p0 := bR1.free 0
    have p1 := bR1.free 1
    have p2 := bR1.free 2
    have p3 := bR1.free 3
    have p4 := bR1.free 4
    have qF := ((((bR1.set 0 (.int .i64 4)).set 1 (.slice none 0 0)).set 2 (.int .i64 0)).set 3 (.int .i64 0)).set 4 (.int .i64 0)
    have hK5 := ((((((KeepsOthers.setCell W ⟨w.heap.size + 1, 0, none⟩ (.int .i64 4)).trans (KeepsOthers.setCell _ ⟨w.heap.size + 1, 1, none⟩ (.slice none 0 0))).trans (KeepsOthers.setCell _ ⟨w.heap.size + 1, 2, none⟩ (.int .i64 0))).trans (KeepsOthers.setCell _ ⟨w.heap.size + 1, 3, none⟩ (.int .i64 0)))).trans (KeepsOthers.setCell _ ⟨w.heap.size + 1, 4, none⟩ (.int .i64 0))).same D _ hK rfl
    have hz1 := hB1.size
    gi_wp2
    refine ⟨by simp, .inl ⟨_, _, rfl, run_takeDeferred hK5, ?_⟩⟩
    have hbl : Below w.heap.size w (((((W.setCell ⟨w.heap.size + 1, 0, none⟩ (.int .i64 4)).setCell ⟨w.heap.size + 1, 1, none⟩ (.slice none 0 0)).setCell ⟨w.heap.size + 1, 2, none⟩ (.int .i64 0)).setCell ⟨w.heap.size + 1, 3, none⟩ (.int .i64 0)).setCell ⟨w.heap.size + 1, 4, none⟩ (.int .i64 0)) := by
      iterate 5 (refine Below.setCell ?_ (by dsimp only; omega) _)
      exact hB0.trans (hB1.mono (by omega))
    have qG := blk_own (w.heap.size + 1) 31 (fun (_ : Unit) => resCells noneR none 0) () _ _ _ qF (grownBy_putObj' _ D (.deferred none)) (fun r e => by cases e; exact ⟨_, hK5, rfl⟩)
    have g0 := qG.at (x := 0) rfl
    have g1 := qG.at (x := 1) rfl
    have g2 := qG.at (x := 2) rfl
    have g3 := qG.at (x := 3) rfl
    have g4 := qG.at (x := 4) rfl
    refine ⟨.agg #[.int .i64 noneR.f0, .slice none noneR.f1.length 0, .int .i64 noneR.f2.f0, .int .i64 noneR.f2.f1, .int .i64 noneR.f2.f2], by simp [results, Try.f42, go_sem, g0, g1, g2, g3, g4], none, 0, rfl, ?_, ?_⟩
    · exact Owns.of_row (lo := 0) (hi := 0) (Mem.Own.nil _ _ _ _ _) (Nat.le_refl _) (Nat.zero_le _) (fun _ _ h => absurd h (by omega))
    · exact hbl.trans (belowK_b (w := w) (Nat.le_refl _) _ D _ _ (by omega) hK5 rfl rfl)
  case stop =>
    rintro D cd pre W hD ⟨k, hk, hpre⟩ ⟨⟨rfl, ini, last, rfl, h1, h2, aa, d, hi', bR1, ho, hd1, hd2, hhi⟩, hB1⟩ hK
    obtain ⟨k', rfl⟩ : ∃ k', k = k' + 1 := by
      cases k with
      | zero => simp [downs] at hpre
      | succ k' => exact ⟨k', rfl⟩
    rw [downs_succ, List.map_append] at hpre
    obtain ⟨e1, e2⟩ := List.append_inj' hpre rfl
    have e3 : last.1 = len - 1 - k' := by simpa using e2
    have hR1 := HHIT.out last.1 last.2 h2 fun m hm1 hm2 => by
      have hmem : m ∈ ini.map (fun x => x.1) := by rw [e1]; exact downs_at (by omega) (by omega) hm2
      obtain ⟨x, hx, e⟩ := List.mem_map.1 hmem
      have := h1 x hx
      rwa [e] at this
    rw [← hR1] at bR1 ho hd1
    have hz1 := hB1.size
    gi_wp2
    refine ⟨by simp, .inl ⟨_, _, rfl, run_takeDeferred hK, ?_⟩⟩
    have qG := blk_own (w.heap.size + 1) 31 (fun (_ : Unit) => resCells R aa d) () _ _ _ bR1 (grownBy_putObj' _ D (.deferred none)) (fun r e => by cases e; exact ⟨_, hK, rfl⟩)
    have hoG := own_own (w.heap.size + 3) hi' (fun (_ : Unit) => aa) (fun _ => R.f1.length) (fun _ => R.f1) () _ _ _ ho (grownBy_putObj' _ D (.deferred none)) (fun r e => by cases e; exact ⟨_, hK, rfl⟩)
    have g0 := qG.at (x := 0) rfl
    have g1 := qG.at (x := 1) rfl
    have g2 := qG.at (x := 2) rfl
    have g3 := qG.at (x := 3) rfl
    have g4 := qG.at (x := 4) rfl
    refine ⟨.agg #[.int .i64 R.f0, .slice aa R.f1.length d, .int .i64 R.f2.f0, .int .i64 R.f2.f1, .int .i64 R.f2.f2], by simp [results, Try.f42, go_sem, g0, g1, g2, g3, g4], aa, d, rfl, ?_, ?_⟩
    · have hzG := (grownBy_putObj' W D (.deferred none)).size
      exact Owns.of_row (c := d) hoG hd1 hd2 (fun t h1 h2 => ⟨by omega, by omega⟩)
    · exact hB1.trans (belowK_b (w := w) (Nat.le_refl _) _ D _ _ (by omega) hK rfl rfl)
end Go.Proofs.Ytldpgkbemgpacaa.Sites
