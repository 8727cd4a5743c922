/-
  The draws of scripts, and of a kind.
  Conditions: the bytes lie in memory.
-/
import Derived.Test.YtbohkohccnieiaaDrawOp
import Derived.Test.YtbohkohccnieiaaDrawOwn
import Derived.Test.YtbohkohccnieiaaDatBuf
namespace Go.Proofs.Ytbohkohccnieiaa.Draw
open Go Go.RowKit Go.Proofs.Ytbohkohccnieiaa.Mem Go.Proofs.Ytbohkohccnieiaa.Gen Go.Proofs.Ytbohkohccnieiaa.Scripts

theorem getD_l {l : List TOp} {P : TOp} {i : Nat} (h : i < l.length) : (l ++ [P]).getD i nOp = l.getD i nOp := by
  rw [List.getD_eq_getElem?_getD, List.getD_eq_getElem?_getD, List.getElem?_append_left h]
theorem getD_e {l : List TOp} {P : TOp} : (l ++ [P]).getD l.length nOp = P := by
  rw [List.getD_eq_getElem?_getD, List.getElem?_append_right (Nat.le_refl _)]; simp
def ops (l : List TOp) : Nat → Nat → Dat := fun i => (l.getD i nOp).c
theorem snoc_op {l : List TOp} {P : TOp} {n : Nat} (hn : l.length = n) : ∀ i, i < n + 1 → ∀ x, x < 4 → snoc n (fun i => (l.getD i nOp).c) P.c i x = ((l ++ [P]).getD i nOp).c x := by
  intro i hi x _
  subst hn
  unfold snoc
  by_cases he : i < l.length
  · rw [if_pos he, getD_l he]
  · rw [if_neg he, show i = l.length by omega, getD_e]
/-- The cells of a step. -/
def opCells (P : TOp) : List Value := [.int .i64 P.f0, .int .i64 P.f1, .int .i64 P.f2, .int .i64 P.f3]
theorem fresh_op {M hi : Nat} {w : World} {P : TOp} (h : WfO P) : Fresh M hi 4 (fun _ _ => False) P.c (opCells P) w :=
  ⟨rfl, fun _ _ _ h => h.elim, fun _ _ _ _ _ h _ => h.elim, fun x hx => by
    match x, hx with
    | 0, _ => exact ⟨_, rfl, rfl, h.1⟩
    | 1, _ => exact ⟨_, rfl, rfl, h.2.1⟩
    | 2, _ => exact ⟨_, rfl, rfl, h.2.2.1⟩
    | 3, _ => exact ⟨_, rfl, rfl, h.2.2.2⟩⟩
theorem op_one (P : TOp) : ∀ u ∈ opCells P, u.oneCell' = true := by simp [opCells, Value.oneCell']
theorem bufO_only {T : TypeId} {base hi k n p : Nat} {w w' : World} {v : Value} {f : Nat → Nat → Dat} (h : Buf T base hi k w v n f) (ho : Only p w w') (hp : p < base) : Buf T base hi k w' v n f :=
  h.keep fun t ht hb _ => ho.block t ht (by omega)
/-- One number of a step set. -/
def setF (P : TOp) (x : Nat) (z : Int) : TOp := if x = 0 then ⟨z, P.f1, P.f2, P.f3⟩ else if x = 1 then ⟨P.f0, z, P.f2, P.f3⟩ else if x = 2 then ⟨P.f0, P.f1, z, P.f3⟩ else ⟨P.f0, P.f1, P.f2, z⟩
theorem setF_c (P : TOp) {x y : Nat} (z : Int) (hx : x < 4) (hy : y < 4) : (setF P x z).c y = if y = x then .int z else P.c y := by
  match x, hx, y, hy with
  | 0, _, 0, _ | 0, _, 1, _ | 0, _, 2, _ | 0, _, 3, _ | 1, _, 0, _ | 1, _, 1, _ | 1, _, 2, _ | 1, _, 3, _ | 2, _, 0, _ | 2, _, 1, _ | 2, _, 2, _ | 2, _, 3, _ | 3, _, 0, _ | 3, _, 1, _ | 3, _, 2, _ | 3, _, 3, _ => rfl
theorem set_same {l : List TOp} {P : TOp} {i : Nat} (h : i < l.length) : (l.set i P).getD i nOp = P := by
  rw [List.getD_eq_getElem?_getD, List.getElem?_set_self h]; rfl
theorem set_other {l : List TOp} {P : TOp} {i j : Nat} (h : i ≠ j) : (l.set i P).getD j nOp = l.getD j nOp := by
  rw [List.getD_eq_getElem?_getD, List.getD_eq_getElem?_getD, List.getElem?_set_ne h]
/-- A number written into a step of a list. -/
theorem lies_put {lo hi b off c i x : Nat} {w : World} {l : List TOp} {z : Int} (h : Lies lo hi w (dOp l) (.slice (some ⟨b, off, none⟩) l.length c)) (hi' : i < l.length) (hx : x < 4) (hz : (Lit.int .i64 z).wf = true) :
    Lies lo hi (w.setCell ⟨b, off + i * 4 + x, none⟩ (.int .i64 z)) (dOp (l.set i (setF (l.getD i nOp) x z))) (.slice (some ⟨b, off, none⟩) (l.set i (setF (l.getD i nOp) x z)).length c) := by
  obtain ⟨A', c', e, h1, h2, h3⟩ := h
  injection e with e1 e2 e3
  subst e1 e3
  obtain ⟨b', off', e4, k1, k2, k3⟩ := h3 (by omega)
  injection e4 with e4
  injection e4 with e5 e6
  subst e5 e6
  refine ⟨_, _, rfl, by rw [List.length_set]; exact h1, h2, fun _ => ⟨b, off, rfl, k1, k2, fun j hj y hy => ?_⟩⟩
  rw [List.length_set] at hj
  obtain ⟨u, g1, g2⟩ := k3 j hj y hy
  by_cases he : j = i
  · subst he
    dsimp only
    rw [set_same hi', setF_c _ _ hx hy]
    by_cases hf : y = x
    · subst hf
      rw [if_pos rfl]
      exact ⟨_, World.cell?_setCell_same _ _ _ g1, rfl, hz⟩
    · rw [if_neg hf]
      refine ⟨u, ?_, ?_⟩
      · rw [World.cell?_setCell_other (h := fun e => by injection e with _ e; omega)]; exact g1
      · revert g2; match y, hy with
        | 0, _ => exact fun h => h
        | 1, _ => exact fun h => h
        | 2, _ => exact fun h => h
        | 3, _ => exact fun h => h
  · dsimp only
    rw [set_other (fun e => he e.symm)]
    refine ⟨u, ?_, ?_⟩
    · rw [World.cell?_setCell_other (h := fun e => by injection e with _ e; omega)]; exact g1
    · revert g2; match y, hy with
      | 0, _ => exact fun h => h
      | 1, _ => exact fun h => h
      | 2, _ => exact fun h => h
      | 3, _ => exact fun h => h

/-- Drawn steps, which may be appended to. -/
def IsOps (B p : Nat) (w : World) (e : Ending) (w' : World) : Prop :=
  ∃ (v : Value) (l : List TOp), e = .returned v ∧ Buf 71 w.heap.size w'.heap.size 4 w' v l.length (ops l) ∧ l.length ≤ 12 ∧ Cur 89 B p w' ∧ Only p w w'
/-- A drawn script. -/
def IsScr (B p : Nat) (w : World) (e : Ending) (w' : World) : Prop :=
  ∃ (A : Option Addr) (c : Nat) (l : List TOp), e = .returned (.slice A l.length c) ∧ Lies w.heap.size w'.heap.size w' (dOp l) (.slice A l.length c) ∧ l.length ≤ 17 ∧ Cur 89 B p w' ∧ Only p w w'

set_option maxHeartbeats 2000000 in
set_option maxRecDepth 100000 in
theorem draw10 (B p : Nat) (w : World) (hc : Cur 89 B p w) :
    Calls Try.prog 81 #[.pointer (some ⟨p, 0, none⟩)] w (IsOps B p w) := by
  obtain ⟨i0, hi0, hz0, hz1, hz2⟩ := info_parts infoOp
  have hpl := hc.lt
  have hs := Buf.made 71 w.heap.size 4 w (ops []) (Nat.le_refl _)
  have hc0 := hc.below ((Below.refl w.heap.size w).alloc (Nat.le_refl _) (.cells #[] 71))
  have ho0 := (Only.refl p w).alloc (.cells #[] 71)
  go_enter Try.func81, Try.ntmps81
  go_wp2_with fail
  go_at_call 71
  refine (below_any B p _ _ hc0 (by omega) (by omega)).mono ?_
  rintro e w1 ⟨⟨x, hx, rfl⟩, hc1, ho1⟩
  have hx13 : x < 13 := hx
  have hs1 := (bufO_only hs ho1 hpl).more (hi' := w1.heap.size) (by have := ho1.size; rw [gsize_alloc] at this; exact this)
  have hO1 := ho0.trans ho1
  clear hs hc0 ho0 ho1 hx hc
  go_wp2_with fail
  go_loopw [3, 4] (fun v i wr => ∃ (j : Nat) (l : List TOp), j ≤ x ∧ i = .int .i64 ((x - j : Nat) : Int) ∧ Buf 71 w.heap.size wr.heap.size 4 wr v j (ops l) ∧ Hid (l.length = j) ∧ Cur 89 B p wr ∧ Only p w wr) (fun _ i _ => (intOf i).toNat)
  case atStart => exact ⟨0, [], Nat.zero_le _, rfl, hs1, Lib.hid rfl, hc1, hO1⟩
  case round =>
    obtain ⟨j, l, hj, rfl, ho, HL, hcr, hor⟩ := hrel
    clear hs1 hc1 hO1
    have hsz := hor.size
    by_cases hlt : j < x
    · have hd : decide (((x - j : Nat) : Int) > 0) = true := by simp; omega
      have hd' : decide (0 < ((x - j : Nat) : Int)) = true := by simp; omega
      go_wp2_with fail
      go_at_call 91
      refine (op10 B p _ hcr).mono ?_
      rintro e w4 ⟨⟨P, rfl, hP⟩, hc4, ho4⟩
      have hs4 := ho4.size
      have hF : Fresh w4.heap.size (w4.alloc (.cells (opCells P).toArray 71)).heap.size 4 (fun _ _ => False) P.c (opCells P) (w4.alloc (.cells (opCells P).toArray 71)) := fresh_op hP
      have hbuf := ((bufO_only ho ho4 hpl).more (hi' := w4.heap.size) hs4).below ((Below.refl w4.heap.size w4).alloc (Nat.le_refl _) (.cells (opCells P).toArray 71))
      have qB := Blk.new 71 (opCells P) w4
      have hc5 := hc4.below ((Below.refl w4.heap.size w4).alloc (Nat.le_refl _) (.cells (opCells P).toArray 71))
      have hor5 := (hor.trans ho4).alloc (.cells (opCells P).toArray 71)
      have hone := op_one P
      obtain ⟨W5, hW5⟩ : ∃ W5, w4.alloc (.cells (opCells P).toArray 71) = W5 := ⟨_, rfl⟩
      obtain ⟨us, hus⟩ : ∃ us, opCells P = us := ⟨_, rfl⟩
      have hs5 : w4.heap.size < W5.heap.size := by rw [← hW5, gsize_alloc]; omega
      rw [hW5] at hF hbuf qB hc5 hor5
      rw [hus] at hF qB hone
      have hW5' : w4.alloc (.cells #[.int .i64 P.f0, .int .i64 P.f1, .int .i64 P.f2, .int .i64 P.f3] 71) = W5 := by rw [← hW5]; rfl
      have HW := Lib.hid hW5'
      clear hW5 hW5' hus ho4 hc4 hor hcr ho hP
      go_wp2_with (at_builtin; rw [HW.out]; refine wpList_append_el rfl _ _ 24 rfl i0 _ 32 Try.underlying24 hi0 hz0 hz1 hz2 rfl (by omega) (by omega) hbuf ?c1 ?c2 hF (fun j u hu => qB.at hu) hone ?c3 rfl rfl ?_; (case c1 => omega); (case c2 => omega); (case c3 => omega); intro v' w' hb' hbl' hk')
      go_roundw
      case rel =>
        have hlen := HL.out
        exact ⟨j + 1, l ++ [P], by omega, by go_num, hb'.congr (snoc_op hlen), Lib.hid (by rw [List.length_append, hlen]; rfl), hc5.under hbl' hpl, hor5.under hbl' (Nat.le_refl _)⟩
      case measure => simp [intOf]; omega
    · have HE := Lib.hid (show x - j = 0 by omega)
      have hd : decide (((x - j : Nat) : Int) > 0) = false := by simp; omega
      have hd' : decide (0 < ((x - j : Nat) : Int)) = false := by simp; omega
      go_wp2
      go_ret
      have hlen := HL.out
      exact ⟨_, l, rfl, by rw [hlen]; exact ho, by omega, hcr, hor⟩

def vlen : Value → Nat
  | .slice _ n _ => n
  | _ => 0

set_option maxHeartbeats 4000000 in
set_option maxRecDepth 100000 in
theorem any10 (B p : Nat) (w : World) (hc : Cur 89 B p w) :
    Calls Try.prog 69 #[.pointer (some ⟨p, 0, none⟩)] w (IsScr B p w) := by
  obtain ⟨i0, hi0, hz0, hz1, hz2⟩ := info_parts infoOp
  have hpl := hc.lt
  have hBp := hc.1
  have hd := draw10 B p w hc
  clear hc
  go_enter Try.func69, Try.ntmps69
  go_wp2_with fail
  go_at_call 81
  refine hd.mono ?_
  rintro e w1 ⟨v, l, rfl, hbuf, hlen, hc1, hO⟩
  clear hd
  have hs1 := hO.size
  obtain ⟨A, c, rfl, _, _⟩ := hbuf.shape
  have hLie : Lies w.heap.size w1.heap.size w1 (dOp l) (.slice A l.length c) := hbuf.owns.lies
  obtain ⟨n, hn⟩ : ∃ n, l.length = n := ⟨_, rfl⟩
  by_cases h0 : n = 0
  · have e0 : (l.length : Int) = 0 := by omega
    rw [hn] at hbuf hLie ⊢
    have HN := Lib.hid hn
    have HLie := Lib.hid hLie
    subst h0
    clear hn e0 hLie
    go_wp2
    go_ret
    refine ⟨A, c, l, ?_, ?_, by omega, hc1, hO⟩
    · rw [HN.out]; rfl
    · rw [HN.out]; exact HLie.out
  have hlo := hbuf.owns
  rw [show (Dat.row 4 l.length (ops l)) = .row 4 n (ops l) by rw [hn]] at hlo
  obtain ⟨A', c', e, k1, k2, k3⟩ := hlo
  injection e with e1 e2 e3
  subst e1 e3
  obtain ⟨b, off, G, rfl, ⟨hb1, hb2⟩, _, hfr⟩ := k3 (by omega)
  have hfr : ∀ i, i < n → ∀ x, x < 4 → w1.frozen? ⟨b, off + i * 4 + x, none⟩ = false := fun i hi x hx => (hfr i hi x hx).1
  have hcl : ∀ i, i < n → COp w1 b (off + i * 4) (l.getD i nOp) := fun i hi => by
    rw [hn] at hLie
    obtain ⟨b', off', e, _, _, hC, _⟩ := at_Op hLie hi
    injection e with e
    injection e with e4 e5
    subst e4 e5
    exact hC
  have hpb : b ≠ p := by omega
  have hn12 : n ≤ 12 := by omega
  rw [hn] at hbuf hlen ⊢
  have HN := Lib.hid hn
  have HLie := Lib.hid hLie
  have HF := Lib.hid hfr
  have HCL := Lib.hid hcl
  clear hn hLie k3 hfr hcl
  go_wp2_with fail
  go_at_call 71
  refine (below_any B p _ _ hc1 (by omega) (by omega)).mono ?_
  rintro e w2 ⟨⟨i, hi, rfl⟩, hc2, ho2⟩
  have hin : i < n := by simp at hi; omega
  have hO2 := hO.trans ho2
  have hs2 := ho2.size
  have hbuf2 := (bufO_only hbuf ho2 hpl).more (hi' := w2.heap.size) hs2
  have HO2 := Lib.hid ho2
  clear hi hc1 hO ho2 hbuf
  go_wp2_with fail
  go_at_call 71
  refine (below_any B p _ _ hc2 (by omega) (by omega)).mono ?_
  rintro e w3 ⟨⟨y, hy, rfl⟩, hc3, ho3⟩
  have hO3 := hO2.trans ho3
  have hs3 := ho3.size
  have hbuf3 := (bufO_only hbuf2 ho3 hpl).more (hi' := w3.heap.size) hs3
  have HO3 := Lib.hid (HO2.out.trans ho3)
  clear hc2 hO2 ho3 hbuf2 hy HO2
  by_cases y0 : y = 0
  · subst y0
    go_wp2_with fail
    go_at_call 39
    refine (int_new B p [0, 10, 5] _ _ _ rfl _ _ rfl hc3 (by decide) (by decide)).mono ?_
    rintro e w4 ⟨⟨z, hz, rfl⟩, hc4, ho4⟩
    have hwz : (Lit.int .i64 z).wf = true := by simp at hz; rcases hz with rfl | rfl | rfl <;> decide
    have hoA := HO3.out.trans ho4
    have hO4 := hO3.trans ho4
    have hs4 := ho4.size
    have hC := HCL.out i hin
    have hbk : w4.heap[b]? = w1.heap[b]? := hoA.block b (by omega) hpb
    have hC := hC.keep hbk
    have hfz : w4.frozen? ⟨b, off + i * 4 + 0, none⟩ = false := by rw [frozen_of_heap hbk]; exact HF.out i hin 0 (by omega)
    obtain ⟨c0, c1, c2, c3⟩ := hC
    have hL := HLie.out
    have HP := Lib.hid (lies_put (z := z) (x := 0) ((hL.keep (w' := w4) (fun t ht h1 h2 => hoA.block t ht (by omega)))) (show i < l.length by rw [HN.out]; exact hin) (by omega) hwz)
    try simp only [Nat.add_zero] at hfz
    have hO5 := hO4.setNew (a := ⟨b, off + i * 4 + 0, none⟩) hb1 (.int .i64 z)
    have hc5 := hc4.only_new (a := ⟨b, off + i * 4 + 0, none⟩) hpb (by dsimp only; omega) (.int .i64 z)
    clear hL hc3 hc4 hoA ho4 hbuf3 HO3 hO3
    go_wp2
    go_ret
    have hlen : (l.set i (setF (l.getD i nOp) 0 z)).length = n := by rw [List.length_set, HN.out]
    refine ⟨some ⟨b, off, none⟩, c, l.set i (setF (l.getD i nOp) 0 z), ?_, ?_, by rw [hlen]; omega, hc5, hO5⟩
    · rw [hlen]; rfl
    · exact (HP.out).more (Nat.le_refl _) (by rw [gsize_set]; omega)
  have e0 : ((y : Int) == 0) = false := by simp; omega
  by_cases y1 : y = 1
  · subst y1
    go_wp2_with fail
    go_at_call 39
    refine (int_new B p [-1, 3, 4] _ _ _ rfl _ _ rfl hc3 (by decide) (by decide)).mono ?_
    rintro e w4 ⟨⟨z, hz, rfl⟩, hc4, ho4⟩
    have hwz : (Lit.int .i64 z).wf = true := by simp at hz; rcases hz with rfl | rfl | rfl <;> decide
    have hoA := HO3.out.trans ho4
    have hO4 := hO3.trans ho4
    have hs4 := ho4.size
    have hC := HCL.out i hin
    have hbk : w4.heap[b]? = w1.heap[b]? := hoA.block b (by omega) hpb
    have hC := hC.keep hbk
    have hfz : w4.frozen? ⟨b, off + i * 4 + 1, none⟩ = false := by rw [frozen_of_heap hbk]; exact HF.out i hin 1 (by omega)
    obtain ⟨c0, c1, c2, c3⟩ := hC
    have hL := HLie.out
    have HP := Lib.hid (lies_put (z := z) (x := 1) ((hL.keep (w' := w4) (fun t ht h1 h2 => hoA.block t ht (by omega)))) (show i < l.length by rw [HN.out]; exact hin) (by omega) hwz)
    try simp only [Nat.add_zero] at hfz
    have hO5 := hO4.setNew (a := ⟨b, off + i * 4 + 1, none⟩) hb1 (.int .i64 z)
    have hc5 := hc4.only_new (a := ⟨b, off + i * 4 + 1, none⟩) hpb (by dsimp only; omega) (.int .i64 z)
    clear hL hc3 hc4 hoA ho4 hbuf3 HO3 hO3
    go_wp2
    go_ret
    have hlen : (l.set i (setF (l.getD i nOp) 1 z)).length = n := by rw [List.length_set, HN.out]
    refine ⟨some ⟨b, off, none⟩, c, l.set i (setF (l.getD i nOp) 1 z), ?_, ?_, by rw [hlen]; omega, hc5, hO5⟩
    · rw [hlen]; rfl
    · exact (HP.out).more (Nat.le_refl _) (by rw [gsize_set]; omega)
  have e1 : ((y : Int) == 1) = false := by simp; omega
  by_cases y2 : y = 2
  · subst y2
    go_wp2_with fail
    go_at_call 82
    refine (raw4 B p _ hc3).mono ?_
    rintro e w4 ⟨⟨z, hz0, hz1, rfl⟩, hc4, ho4⟩
    have hwz : (Lit.int .i64 z).wf = true := WalkArith.wf_i64 (by omega)
    have hoA := HO3.out.trans ho4
    have hO4 := hO3.trans ho4
    have hs4 := ho4.size
    have hC := HCL.out i hin
    have hbk : w4.heap[b]? = w1.heap[b]? := hoA.block b (by omega) hpb
    have hC := hC.keep hbk
    have hfz : w4.frozen? ⟨b, off + i * 4 + 2, none⟩ = false := by rw [frozen_of_heap hbk]; exact HF.out i hin 2 (by omega)
    obtain ⟨c0, c1, c2, c3⟩ := hC
    have hL := HLie.out
    have HP := Lib.hid (lies_put (z := z) (x := 2) ((hL.keep (w' := w4) (fun t ht h1 h2 => hoA.block t ht (by omega)))) (show i < l.length by rw [HN.out]; exact hin) (by omega) hwz)
    try simp only [Nat.add_zero] at hfz
    have hO5 := hO4.setNew (a := ⟨b, off + i * 4 + 2, none⟩) hb1 (.int .i64 z)
    have hc5 := hc4.only_new (a := ⟨b, off + i * 4 + 2, none⟩) hpb (by dsimp only; omega) (.int .i64 z)
    clear hL hc3 hc4 hoA ho4 hbuf3 HO3 hO3
    go_wp2
    go_ret
    have hlen : (l.set i (setF (l.getD i nOp) 2 z)).length = n := by rw [List.length_set, HN.out]
    refine ⟨some ⟨b, off, none⟩, c, l.set i (setF (l.getD i nOp) 2 z), ?_, ?_, by rw [hlen]; omega, hc5, hO5⟩
    · rw [hlen]; rfl
    · exact (HP.out).more (Nat.le_refl _) (by rw [gsize_set]; omega)
  have e2 : ((y : Int) == 2) = false := by simp; omega
  by_cases y3 : y = 3
  · subst y3
    go_wp2_with fail
    go_at_call 82
    refine (raw4 B p _ hc3).mono ?_
    rintro e w4 ⟨⟨z, hz0, hz1, rfl⟩, hc4, ho4⟩
    have hwz : (Lit.int .i64 z).wf = true := WalkArith.wf_i64 (by omega)
    have hoA := HO3.out.trans ho4
    have hO4 := hO3.trans ho4
    have hs4 := ho4.size
    have hC := HCL.out i hin
    have hbk : w4.heap[b]? = w1.heap[b]? := hoA.block b (by omega) hpb
    have hC := hC.keep hbk
    have hfz : w4.frozen? ⟨b, off + i * 4 + 3, none⟩ = false := by rw [frozen_of_heap hbk]; exact HF.out i hin 3 (by omega)
    obtain ⟨c0, c1, c2, c3⟩ := hC
    have hL := HLie.out
    have HP := Lib.hid (lies_put (z := z) (x := 3) ((hL.keep (w' := w4) (fun t ht h1 h2 => hoA.block t ht (by omega)))) (show i < l.length by rw [HN.out]; exact hin) (by omega) hwz)
    try simp only [Nat.add_zero] at hfz
    have hO5 := hO4.setNew (a := ⟨b, off + i * 4 + 3, none⟩) hb1 (.int .i64 z)
    have hc5 := hc4.only_new (a := ⟨b, off + i * 4 + 3, none⟩) hpb (by dsimp only; omega) (.int .i64 z)
    clear hL hc3 hc4 hoA ho4 hbuf3 HO3 hO3
    go_wp2
    go_ret
    have hlen : (l.set i (setF (l.getD i nOp) 3 z)).length = n := by rw [List.length_set, HN.out]
    refine ⟨some ⟨b, off, none⟩, c, l.set i (setF (l.getD i nOp) 3 z), ?_, ?_, by rw [hlen]; omega, hc5, hO5⟩
    · rw [hlen]; rfl
    · exact (HP.out).more (Nat.le_refl _) (by rw [gsize_set]; omega)
  have e3 : ((y : Int) == 3) = false := by simp; omega
  by_cases y4 : y = 4
  rotate_left
  · have e4 : ((y : Int) == 4) = false := by simp; omega
    have hoA := HO3.out
    have hL := HLie.out.keep (w' := w3) (fun t ht h1 h2 => hoA.block t ht (by omega))
    have HL := Lib.hid hL
    clear hL hoA HO3 HLie
    go_wp2
    go_ret
    refine ⟨some ⟨b, off, none⟩, c, l, ?_, ?_, by rw [HN.out]; omega, hc3, hO3⟩
    · rw [HN.out]; rfl
    · exact HL.out.more (Nat.le_refl _) (by omega)
  subst y4
  have hbuf3 := hbuf3
  clear HO3 HLie HF HCL e0 e1 e2 e3 y0 y1 y2 y3
  go_wp2_with fail
  go_loopw [3] (fun v wr => ∃ (j : Nat) (l : List TOp), j ≤ 17 ∧ Buf 71 w.heap.size wr.heap.size 4 wr v j (ops l) ∧ Hid (l.length = j) ∧ Cur 89 B p wr ∧ Only p w wr) (fun v _ => 17 - vlen v)
  case atStart => exact ⟨n, l, by omega, hbuf3, HN, hc3, hO3⟩
  case round =>
    obtain ⟨j, l2, hj, ho, HL, hcr, hor⟩ := hrel
    clear hbuf3 hO3 hc3
    have hsz := hor.size
    obtain ⟨A2, C2, rfl, _, _⟩ := ho.shape
    by_cases hlt : j < 17
    · have hdl : decide ((j : Int) < 17) = true := by simp; omega
      have hF : Fresh wr.heap.size (wr.alloc (.cells (opCells ⟨2, 0, 0, 0⟩).toArray 71)).heap.size 4 (fun _ _ => False) (⟨2, 0, 0, 0⟩ : TOp).c (opCells ⟨2, 0, 0, 0⟩) (wr.alloc (.cells (opCells ⟨2, 0, 0, 0⟩).toArray 71)) := fresh_op ⟨by decide, by decide, by decide, by decide⟩
      have hbuf := ho.below ((Below.refl wr.heap.size wr).alloc (Nat.le_refl _) (.cells (opCells ⟨2, 0, 0, 0⟩).toArray 71))
      have qB := Blk.new 71 (opCells ⟨2, 0, 0, 0⟩) wr
      have hc5 := hcr.below ((Below.refl wr.heap.size wr).alloc (Nat.le_refl _) (.cells (opCells ⟨2, 0, 0, 0⟩).toArray 71))
      have hor5 := hor.alloc (.cells (opCells ⟨2, 0, 0, 0⟩).toArray 71)
      have hone := op_one ⟨2, 0, 0, 0⟩
      obtain ⟨W5, hW5⟩ : ∃ W5, wr.alloc (.cells (opCells ⟨2, 0, 0, 0⟩).toArray 71) = W5 := ⟨_, rfl⟩
      obtain ⟨us, hus⟩ : ∃ us, opCells ⟨2, 0, 0, 0⟩ = us := ⟨_, rfl⟩
      have hs5 : wr.heap.size < W5.heap.size := by rw [← hW5, gsize_alloc]; omega
      rw [hW5] at hF hbuf qB hc5 hor5
      rw [hus] at hF qB hone
      have hW5' : wr.alloc (.cells #[.int .i64 2, .int .i64 0, .int .i64 0, .int .i64 0] 71) = W5 := by rw [← hW5]; rfl
      have HW := Lib.hid hW5'
      clear hW5 hW5' hus hor ho hcr
      go_wp2_with (at_builtin; rw [HW.out]; refine wpList_append_el rfl _ _ 24 rfl i0 _ 32 Try.underlying24 hi0 hz0 hz1 hz2 rfl (by omega) (by omega) hbuf ?c1 ?c2 hF (fun j u hu => qB.at hu) hone ?c3 rfl rfl ?_; (case c1 => omega); (case c2 => omega); (case c3 => omega); intro v' w' hb' hbl' hk')
      go_roundw
      case rel =>
        have hlen := HL.out
        exact ⟨j + 1, l2 ++ [(⟨2, 0, 0, 0⟩ : TOp)], by omega, hb'.congr (snoc_op (P := ⟨2, 0, 0, 0⟩) hlen), Lib.hid (by rw [List.length_append, hlen]; rfl), hc5.under hbl' hpl, hor5.under hbl' (Nat.le_refl _)⟩
      case measure => obtain ⟨A3, C3, rfl, _, _⟩ := hb'.shape; simp [vlen]; omega
    · have hdl : decide ((j : Int) < 17) = false := by simp; omega
      have HO := Lib.hid ho.owns.lies
      go_wp2
      go_ret
      have hlen := HL.out
      refine ⟨A2, C2, l2, ?_, ?_, by omega, hcr, hor⟩
      · rw [hlen]; rfl
      · have := HO.out; unfold dOp; rw [hlen]; exact this

end Go.Proofs.Ytbohkohccnieiaa.Draw
