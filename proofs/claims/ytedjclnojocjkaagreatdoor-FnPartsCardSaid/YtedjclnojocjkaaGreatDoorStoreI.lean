/-
  Whether a slice of parts is a store: the program.
  Conditions: the parts lie in memory, in all at most 2^20 numbers; the program's variable holds its sentinel.
-/
import Derived.Test.YtedjclnojocjkaaGreatDoorStore
namespace Go.Proofs.YtedjclnojocjkaaGreatDoor.Parts
open Go Go.RowKit Go.Proofs.YtedjclnojocjkaaGreatDoor.Mem Go.Proofs.YtedjclnojocjkaaGreatDoor.Adr Go.Proofs.YtedjclnojocjkaaGreatDoor.Res Go.Proofs.YtedjclnojocjkaaGreatDoor.Errs

/-- No reason, or the sentinel. -/
def verdict : Bool → Addr → Value
  | true, _ => .nilIface
  | false, a0 => sent a0
/-- The variable of the program holds its sentinel. -/
def NoStore (a0 : Addr) (w : World) : Prop := w.cell? ⟨0, 0, none⟩ = some (sent a0)
theorem NoStore.below {a0 : Addr} {w w' : World} (h : NoStore a0 w) (hb : Below w.heap.size w w') : NoStore a0 w' := (Mem.cell_of_heap (hb.block _ (Mem.cell_lt h))).trans h
theorem NoStore.zone {a0 : Addr} {w w' : World} {lo hi : Nat} (h : NoStore a0 w) (hz : Zone lo hi w w') (hl : 0 < lo ∨ hi ≤ 0) : NoStore a0 w' := (Mem.cell_of_heap (hz.block _ (Mem.cell_lt h) hl)).trans h

theorem seven_both {T : TypeId} {B b2 o2 k1 k2 : Nat} {P Q : Prt} {A A' : Option Addr} {w : World} (h : Sept T B (.int .i64 P.d) (.int .i64 P.k) (.slice A P.zs.length k1) (.int .i64 P.h) (.int .i64 P.p) (.int .i64 P.q) (.int .i64 P.u) w) (g : Cells7 w b2 o2 Q A' k2) :
    w.cell? ⟨B, 0, none⟩ = some (.int .i64 P.d) ∧ w.cell? ⟨B, 1, none⟩ = some (.int .i64 P.k) ∧ w.cell? ⟨B, 2, none⟩ = some (.slice A P.zs.length k1) ∧ w.cell? ⟨B, 3, none⟩ = some (.int .i64 P.h) ∧ w.cell? ⟨B, 4, none⟩ = some (.int .i64 P.p) ∧ w.cell? ⟨B, 5, none⟩ = some (.int .i64 P.q) ∧ w.cell? ⟨B, 6, none⟩ = some (.int .i64 P.u) ∧ w.cell? ⟨b2, o2, none⟩ = some (.int .i64 Q.d) ∧ w.cell? ⟨b2, o2 + 1, none⟩ = some (.int .i64 Q.k) ∧ w.cell? ⟨b2, o2 + 2, none⟩ = some (.slice A' Q.zs.length k2) ∧ w.cell? ⟨b2, o2 + 3, none⟩ = some (.int .i64 Q.h) ∧ w.cell? ⟨b2, o2 + 4, none⟩ = some (.int .i64 Q.p) ∧ w.cell? ⟨b2, o2 + 5, none⟩ = some (.int .i64 Q.q) ∧ w.cell? ⟨b2, o2 + 6, none⟩ = some (.int .i64 Q.u) := by
  obtain ⟨h0, h1, h2, h3, h4, h5, h6⟩ := h.cells
  exact ⟨h0, h1, h2, h3, h4, h5, h6, g.c0, g.c1, g.c2, g.c3, g.c4, g.c5, g.c6⟩

set_option maxHeartbeats 4000000 in
set_option maxRecDepth 100000 in
theorem check_store (lo hi : Nat) (w : World) (a : Option Addr) (n c : Nat) (l : List Prt) (a0 : Addr) (hr : PRow lo hi w a n l) (hh : hi ≤ w.heap.size) (hm : room l ≤ 1048577) (hg : NoStore a0 w) :
    Calls Tryz.prog 51 #[.slice a n c] w fun e w' => e = .returned (verdict (storeB l) a0) ∧ Below w.heap.size w w' := by
  have hq := room_eq l
  have hlen := hr.len
  have hn : n ≤ 1048577 := by omega
  have hz : ∀ i, i < n → (pt l i).zs.length ≤ 1048576 := fun i hi => by
    have h3 := bodies_take l i (by omega)
    have h4 := bodies_le l (i + 1)
    omega
  obtain ⟨R, hR⟩ : ∃ R, storeB l = R := ⟨_, rfl⟩
  rw [hR]
  have HR := Lib.hid hR
  have HL := Lib.hid hlen
  by_cases hn30 : 30 < n
  · have hRf : R = false := by rw [← hR, storeB_long (by omega)]
    subst hRf
    have hgc : w.cell? ⟨0, 0, none⟩ = some (.iface 166 (.pointer (some a0))) := hg
    clear hR hlen hm hq
    have hd : decide ((n : Int) > 30) = true := by simp; omega
    go_enter Tryz.func51, Tryz.ntmps51
    go_wp2
    go_ret
    exact ⟨rfl, Below.refl _ _⟩
  clear hR hlen hm hq
  have hd30 : decide ((n : Int) > 30) = false := by simp; omega
  go_enter Tryz.func51, Tryz.ntmps51
  go_wp2
  go_loopw [11] (fun i wr => ∃ j : Nat, j ≤ n ∧ i = .int .i64 j ∧ Hid (Fine l j) ∧ Below w.heap.size w wr) (fun i _ => n - (intOf i).toNat)
  case atStart => exact ⟨0, Nat.zero_le _, rfl, Fine.zero _, Below.refl _ _⟩
  case round =>
    obtain ⟨j, hj, rfl, HF, hbl⟩ := hrel
    by_cases hlt : j < n
    · obtain ⟨b, off, A, cc, rfl, _, _, q, hla, wP⟩ := (hr.under hbl hh).at hlt
      have hzj := hz j hlt
      have HN := Lib.hid (fun h : okAt l j = false => storeB_no (by have := HL.out; omega) h)
      have HY := Lib.hid (fun h : okAt l j = true => HF.out.next h)
      have hok : (j = 0 ∧ okAt l j = okP (pt l j)) ∨ ∃ m Q A' c', j = m + 1 ∧ okAt l j = (okP (pt l j) && decide (Q.d < (pt l j).d)) ∧ Cells7 wr b (off + m * 7) Q A' c' := by
        cases j with
        | zero => exact .inl ⟨rfl, okAt_zero _ rfl⟩
        | succ m =>
          obtain ⟨b', off', A', c', e1, _, _, q', _, _⟩ := (hr.under hbl hh).at (i := m) (by omega)
          injection e1 with e1
          injection e1 with e1 e2
          subst e1 e2
          exact .inr ⟨m, pt l m, A', c', rfl, okAt_succ _ _ rfl rfl, q'⟩
      obtain ⟨P, hP⟩ : ∃ P, pt l j = P := ⟨_, rfl⟩
      rw [hP] at q hla wP hzj hok
      obtain ⟨O1, hO1⟩ : ∃ O, O = Obj.cells #[Value.int .i64 P.d, .int .i64 P.k, .slice A P.zs.length cc, .int .i64 P.h, .int .i64 P.p, .int .i64 P.q, .int .i64 P.u] 62 (0, 0) := ⟨_, rfl⟩
      have hA : Below wr.heap.size wr (wr.alloc O1).drew := ((Below.refl _ _).alloc (Nat.le_refl _) _).drew
      have bB : Below w.heap.size w (wr.alloc O1).drew := hbl.trans (hA.mono hbl.size)
      have Q0 : Sept 62 wr.heap.size (.int .i64 P.d) (.int .i64 P.k) (.slice A P.zs.length cc) (.int .i64 P.h) (.int .i64 P.p) (.int .i64 P.q) (.int .i64 P.u) (wr.alloc O1) := by rw [hO1]; exact Sept.new _ _ _ _ _ _ _ _ wr
      have Q1 : Sept 62 wr.heap.size (.int .i64 P.d) (.int .i64 P.k) (.slice A P.zs.length cc) (.int .i64 P.h) (.int .i64 P.p) (.int .i64 P.q) (.int .i64 P.u) (wr.alloc O1).drew := Q0
      have r : Row .i64 lo hi (wr.alloc O1).drew A P.zs.length P.zs := hla.row.below hA
      have hT := fun W r => is_part lo hi P W A cc r hzj wP
      obtain ⟨E, hE⟩ : ∃ E, okP P = E := ⟨_, rfl⟩
      rw [hE] at hT hok
      have gz := Q0.cells
      have g := q.all
      clear hla wP hP hzj hE
      cases E
      · have hno := Lib.hid (HN.out (by rcases hok with ⟨_, h⟩ | ⟨m, Q, A', c', _, h, _⟩ <;> rw [h] <;> rfl))
        clear HN HY hok
        obtain ⟨x0, x1, x2, x3, x4, x5, x6⟩ := g
        subst hO1
        go_upto_region 6 with fail
        refine wp_region_held_drew (S := (fun w' => w'.cell? ⟨wr.heap.size, 0, none⟩ = some (.int .i64 P.d) ∧ w'.cell? ⟨wr.heap.size, 1, none⟩ = some (.int .i64 P.k) ∧ w'.cell? ⟨wr.heap.size, 2, none⟩ = some (.slice A P.zs.length cc) ∧ w'.cell? ⟨wr.heap.size, 3, none⟩ = some (.int .i64 P.h) ∧ w'.cell? ⟨wr.heap.size, 4, none⟩ = some (.int .i64 P.p) ∧ w'.cell? ⟨wr.heap.size, 5, none⟩ = some (.int .i64 P.q) ∧ w'.cell? ⟨wr.heap.size, 6, none⟩ = some (.int .i64 P.u))) (by kernel_rfl) gz (fun hHeld => ?_)
        refine wpAnyH_take (i := 0) (v := ?va0) (List.getElem?_toArray.trans rfl) (by kernel_rfl) (by kernel_rfl) (by kernel_rfl) (fun _ _ _ h => h) (Or.inl ⟨by rfl, ?ya0⟩) (by assumption) ?ra0
        case ya0 => (intro w hSw; (try dsimp only at hSw); go_simp; try with_reducible rfl)
        try simp only [Act.put, List.setIfInBounds_toArray, List.set_cons_zero, List.set_cons_succ]
        refine wpAnyH_ready (rs := [1]) (by kernel_rfl) (by simp) ?_
        refine AllReadyH.cons (List.getElem?_toArray.trans rfl) (fun K hK => ?_) AllReadyH.nil
        go_simp
        go_at_call 82; refine (hT _ r).mono ?_; rintro e w9 ⟨rfl, hb9⟩; have Q1 := Q1.below hb9; have bB := bB.trans (hb9.mono bB.size); have s9 := Q1.cells
        refine hK.out _ _ s9 (fun hHeld => ?_)
        clear hK K
        try simp only [Act.put, List.setIfInBounds_toArray, List.set_cons_zero, List.set_cons_succ]
        refine wpAnyH_take (i := 2) (v := ?va2) (List.getElem?_toArray.trans rfl) (by kernel_rfl) (by kernel_rfl) (by kernel_rfl) (fun _ _ _ h => h) (Or.inl ⟨by rfl, ?ya2⟩) (by assumption) ?ra2
        case ya2 => (intro w hSw; (try dsimp only at hSw); go_simp; try with_reducible rfl)
        try simp only [Act.put, List.setIfInBounds_toArray, List.set_cons_zero, List.set_cons_succ]
        refine wpAnyH_take (i := 3) (v := ?va3) (List.getElem?_toArray.trans rfl) (by kernel_rfl) (by kernel_rfl) (by kernel_rfl) (fun _ _ _ h => h) (Or.inl ⟨by rfl, ?ya3⟩) (by assumption) ?ra3
        case ya3 => (intro w hSw; (try dsimp only at hSw); go_simp; try with_reducible rfl)
        try simp only [Act.put, List.setIfInBounds_toArray, List.set_cons_zero, List.set_cons_succ]
        refine wpAnyH_take (i := 4) (v := undef) (List.getElem?_toArray.trans rfl) (by kernel_rfl) (by kernel_rfl) (by kernel_rfl) (fun _ _ _ h => h) (Or.inr ⟨by first | (simp [Region.wanted, yielded]; done) | simp [Region.wanted, yielded, undef], rfl⟩) (by assumption) ?_
        try simp only [Act.put, List.setIfInBounds_toArray, List.set_cons_zero, List.set_cons_succ]
        refine wpAnyH_take (i := 5) (v := undef) (List.getElem?_toArray.trans rfl) (by kernel_rfl) (by kernel_rfl) (by kernel_rfl) (fun _ _ _ h => h) (Or.inr ⟨by first | (simp [Region.wanted, yielded]; done) | simp [Region.wanted, yielded, undef], rfl⟩) (by assumption) ?_
        try simp only [Act.put, List.setIfInBounds_toArray, List.set_cons_zero, List.set_cons_succ]
        refine wpAnyH_take (i := 6) (v := undef) (List.getElem?_toArray.trans rfl) (by kernel_rfl) (by kernel_rfl) (by kernel_rfl) (fun _ _ _ h => h) (Or.inr ⟨by first | (simp [Region.wanted, yielded]; done) | simp [Region.wanted, yielded, undef], rfl⟩) (by assumption) ?_
        try simp only [Act.put, List.setIfInBounds_toArray, List.set_cons_zero, List.set_cons_succ]
        refine wpAnyH_take (i := 7) (v := undef) (List.getElem?_toArray.trans rfl) (by kernel_rfl) (by kernel_rfl) (by kernel_rfl) (fun _ _ _ h => h) (Or.inr ⟨by first | (simp [Region.wanted, yielded]; done) | simp [Region.wanted, yielded, undef], rfl⟩) (by assumption) ?_
        try simp only [Act.put, List.setIfInBounds_toArray, List.set_cons_zero, List.set_cons_succ]
        refine wpAnyH_take (i := 8) (v := undef) (List.getElem?_toArray.trans rfl) (by kernel_rfl) (by kernel_rfl) (by kernel_rfl) (fun _ _ _ h => h) (Or.inr ⟨by first | (simp [Region.wanted, yielded]; done) | simp [Region.wanted, yielded, undef], rfl⟩) (by assumption) ?_
        try simp only [Act.put, List.setIfInBounds_toArray, List.set_cons_zero, List.set_cons_succ]
        refine wpAnyH_take (i := 9) (v := undef) (List.getElem?_toArray.trans rfl) (by kernel_rfl) (by kernel_rfl) (by kernel_rfl) (fun _ _ _ h => h) (Or.inr ⟨by first | (simp [Region.wanted, yielded]; done) | simp [Region.wanted, yielded, undef], rfl⟩) (by assumption) ?_
        try simp only [Act.put, List.setIfInBounds_toArray, List.set_cons_zero, List.set_cons_succ]
        refine wpAnyH_take (i := 10) (v := undef) (List.getElem?_toArray.trans rfl) (by kernel_rfl) (by kernel_rfl) (by kernel_rfl) (fun _ _ _ h => h) (Or.inr ⟨by first | (simp [Region.wanted, yielded]; done) | simp [Region.wanted, yielded, undef], rfl⟩) (by assumption) ?_
        try simp only [Act.put, List.setIfInBounds_toArray, List.set_cons_zero, List.set_cons_succ]
        refine wpAnyH_take (i := 11) (v := undef) (List.getElem?_toArray.trans rfl) (by kernel_rfl) (by kernel_rfl) (by kernel_rfl) (fun _ _ _ h => h) (Or.inr ⟨by first | (simp [Region.wanted, yielded]; done) | simp [Region.wanted, yielded, undef], rfl⟩) (by assumption) ?_
        try simp only [Act.put, List.setIfInBounds_toArray, List.set_cons_zero, List.set_cons_succ]
        refine wpAnyH_take (i := 12) (v := undef) (List.getElem?_toArray.trans rfl) (by kernel_rfl) (by kernel_rfl) (by kernel_rfl) (fun _ _ _ h => h) (Or.inr ⟨by first | (simp [Region.wanted, yielded]; done) | simp [Region.wanted, yielded, undef], rfl⟩) (by assumption) ?_
        try simp only [Act.put, List.setIfInBounds_toArray, List.set_cons_zero, List.set_cons_succ]
        refine wpAnyH_take (i := 13) (v := undef) (List.getElem?_toArray.trans rfl) (by kernel_rfl) (by kernel_rfl) (by kernel_rfl) (fun _ _ _ h => h) (Or.inr ⟨by first | (simp [Region.wanted, yielded]; done) | simp [Region.wanted, yielded, undef], rfl⟩) (by assumption) ?_
        try simp only [Act.put, List.setIfInBounds_toArray, List.set_cons_zero, List.set_cons_succ]
        refine wpAnyH_take (i := 14) (v := undef) (List.getElem?_toArray.trans rfl) (by kernel_rfl) (by kernel_rfl) (by kernel_rfl) (fun _ _ _ h => h) (Or.inr ⟨by first | (simp [Region.wanted, yielded]; done) | simp [Region.wanted, yielded, undef], rfl⟩) (by assumption) ?_
        try simp only [Act.put, List.setIfInBounds_toArray, List.set_cons_zero, List.set_cons_succ]
        refine wpAnyH_take (i := 15) (v := undef) (List.getElem?_toArray.trans rfl) (by kernel_rfl) (by kernel_rfl) (by kernel_rfl) (fun _ _ _ h => h) (Or.inr ⟨by first | (simp [Region.wanted, yielded]; done) | simp [Region.wanted, yielded, undef], rfl⟩) (by assumption) ?_
        try simp only [Act.put, List.setIfInBounds_toArray, List.set_cons_zero, List.set_cons_succ]
        refine wpAnyH_take (i := 16) (v := undef) (List.getElem?_toArray.trans rfl) (by kernel_rfl) (by kernel_rfl) (by kernel_rfl) (fun _ _ _ h => h) (Or.inr ⟨by first | (simp [Region.wanted, yielded]; done) | simp [Region.wanted, yielded, undef], rfl⟩) (by assumption) ?_
        try simp only [Act.put, List.setIfInBounds_toArray, List.set_cons_zero, List.set_cons_succ]
        refine wpAnyH_take (i := 17) (v := ?va17) (List.getElem?_toArray.trans rfl) (by kernel_rfl) (by kernel_rfl) (by kernel_rfl) (fun _ _ _ h => h) (Or.inl ⟨by rfl, ?ya17⟩) (by assumption) ?ra17
        case ya17 => (intro w hSw; (try dsimp only at hSw); go_simp; try with_reducible rfl)
        try simp only [Act.put, List.setIfInBounds_toArray, List.set_cons_zero, List.set_cons_succ]
        refine wpAnyH_done (by kernel_rfl) ?_ _
        have hgc : w9.cell? ⟨0, 0, none⟩ = some (.iface 166 (.pointer (some a0))) := (Mem.cell_of_heap (bB.block _ (Mem.cell_lt hg))).trans hg
        go_wp2
        go_ret
        exact ⟨by rw [← HR.out, hno.out]; rfl, bB⟩
      rcases hok with ⟨hj0, hok⟩ | ⟨m, Q, A', c', hjm, hok, q'⟩
      · have hyes := Lib.hid (HY.out hok)
        have HJ := Lib.hid hj0
        clear HN HY hok hj0
        obtain ⟨x0, x1, x2, x3, x4, x5, x6⟩ := g
        subst hO1
        go_upto_region 6 with fail
        refine wp_region_held_drew (S := (fun w' => w'.cell? ⟨wr.heap.size, 0, none⟩ = some (.int .i64 P.d) ∧ w'.cell? ⟨wr.heap.size, 1, none⟩ = some (.int .i64 P.k) ∧ w'.cell? ⟨wr.heap.size, 2, none⟩ = some (.slice A P.zs.length cc) ∧ w'.cell? ⟨wr.heap.size, 3, none⟩ = some (.int .i64 P.h) ∧ w'.cell? ⟨wr.heap.size, 4, none⟩ = some (.int .i64 P.p) ∧ w'.cell? ⟨wr.heap.size, 5, none⟩ = some (.int .i64 P.q) ∧ w'.cell? ⟨wr.heap.size, 6, none⟩ = some (.int .i64 P.u))) (by kernel_rfl) gz (fun hHeld => ?_)
        refine wpAnyH_take (i := 0) (v := ?vb0) (List.getElem?_toArray.trans rfl) (by kernel_rfl) (by kernel_rfl) (by kernel_rfl) (fun _ _ _ h => h) (Or.inl ⟨by rfl, ?yb0⟩) (by assumption) ?rb0
        case yb0 => (intro w hSw; (try dsimp only at hSw); go_simp; try with_reducible rfl)
        try simp only [Act.put, List.setIfInBounds_toArray, List.set_cons_zero, List.set_cons_succ]
        refine wpAnyH_ready (rs := [1]) (by kernel_rfl) (by simp) ?_
        refine AllReadyH.cons (List.getElem?_toArray.trans rfl) (fun K hK => ?_) AllReadyH.nil
        go_simp
        go_at_call 82; refine (hT _ r).mono ?_; rintro e w9 ⟨rfl, hb9⟩; have Q1 := Q1.below hb9; have bB := bB.trans (hb9.mono bB.size); have s9 := Q1.cells
        refine hK.out _ _ s9 (fun hHeld => ?_)
        clear hK K
        try simp only [Act.put, List.setIfInBounds_toArray, List.set_cons_zero, List.set_cons_succ]
        refine wpAnyH_take (i := 2) (v := ?vb2) (List.getElem?_toArray.trans rfl) (by kernel_rfl) (by kernel_rfl) (by kernel_rfl) (fun _ _ _ h => h) (Or.inl ⟨by rfl, ?yb2⟩) (by assumption) ?rb2
        case yb2 => (intro w hSw; (try dsimp only at hSw); go_simp; try with_reducible rfl)
        try simp only [Act.put, List.setIfInBounds_toArray, List.set_cons_zero, List.set_cons_succ]
        refine wpAnyH_take (i := 3) (v := ?vb3) (List.getElem?_toArray.trans rfl) (by kernel_rfl) (by kernel_rfl) (by kernel_rfl) (fun _ _ _ h => h) (Or.inl ⟨by rfl, ?yb3⟩) (by assumption) ?rb3
        case yb3 => (intro w hSw; (try dsimp only at hSw); go_simp; try with_reducible rfl)
        try simp only [Act.put, List.setIfInBounds_toArray, List.set_cons_zero, List.set_cons_succ]
        refine wpAnyH_take (i := 4) (v := ?vb4) (List.getElem?_toArray.trans rfl) (by kernel_rfl) (by kernel_rfl) (by kernel_rfl) (fun _ _ _ h => h) (Or.inl ⟨by rfl, ?yb4⟩) (by assumption) ?rb4
        case yb4 => (intro w hSw; (try dsimp only at hSw); go_simp; try with_reducible rfl)
        try simp only [Act.put, List.setIfInBounds_toArray, List.set_cons_zero, List.set_cons_succ]
        refine wpAnyH_take (i := 5) (v := .bool false) (List.getElem?_toArray.trans rfl) (by kernel_rfl) (by kernel_rfl) (by kernel_rfl) (fun _ _ _ h => h) (Or.inl ⟨by rfl, ?yb5⟩) (by assumption) ?rb5
        case yb5 => (intro w hSw; (try dsimp only at hSw); go_simp; try simp [HJ.out])
        try simp only [Act.put, List.setIfInBounds_toArray, List.set_cons_zero, List.set_cons_succ]
        refine wpAnyH_take (i := 6) (v := ?vb6) (List.getElem?_toArray.trans rfl) (by kernel_rfl) (by kernel_rfl) (by kernel_rfl) (fun _ _ _ h => h) (Or.inl ⟨by rfl, ?yb6⟩) (by assumption) ?rb6
        case yb6 => (intro w hSw; (try dsimp only at hSw); go_simp; try with_reducible rfl)
        try simp only [Act.put, List.setIfInBounds_toArray, List.set_cons_zero, List.set_cons_succ]
        refine wpAnyH_take (i := 7) (v := undef) (List.getElem?_toArray.trans rfl) (by kernel_rfl) (by kernel_rfl) (by kernel_rfl) (fun _ _ _ h => h) (Or.inr ⟨by first | (simp [Region.wanted, yielded]; done) | simp [Region.wanted, yielded, undef], rfl⟩) (by assumption) ?_
        try simp only [Act.put, List.setIfInBounds_toArray, List.set_cons_zero, List.set_cons_succ]
        refine wpAnyH_take (i := 8) (v := undef) (List.getElem?_toArray.trans rfl) (by kernel_rfl) (by kernel_rfl) (by kernel_rfl) (fun _ _ _ h => h) (Or.inr ⟨by first | (simp [Region.wanted, yielded]; done) | simp [Region.wanted, yielded, undef], rfl⟩) (by assumption) ?_
        try simp only [Act.put, List.setIfInBounds_toArray, List.set_cons_zero, List.set_cons_succ]
        refine wpAnyH_take (i := 9) (v := undef) (List.getElem?_toArray.trans rfl) (by kernel_rfl) (by kernel_rfl) (by kernel_rfl) (fun _ _ _ h => h) (Or.inr ⟨by first | (simp [Region.wanted, yielded]; done) | simp [Region.wanted, yielded, undef], rfl⟩) (by assumption) ?_
        try simp only [Act.put, List.setIfInBounds_toArray, List.set_cons_zero, List.set_cons_succ]
        refine wpAnyH_take (i := 10) (v := undef) (List.getElem?_toArray.trans rfl) (by kernel_rfl) (by kernel_rfl) (by kernel_rfl) (fun _ _ _ h => h) (Or.inr ⟨by first | (simp [Region.wanted, yielded]; done) | simp [Region.wanted, yielded, undef], rfl⟩) (by assumption) ?_
        try simp only [Act.put, List.setIfInBounds_toArray, List.set_cons_zero, List.set_cons_succ]
        refine wpAnyH_take (i := 11) (v := undef) (List.getElem?_toArray.trans rfl) (by kernel_rfl) (by kernel_rfl) (by kernel_rfl) (fun _ _ _ h => h) (Or.inr ⟨by first | (simp [Region.wanted, yielded]; done) | simp [Region.wanted, yielded, undef], rfl⟩) (by assumption) ?_
        try simp only [Act.put, List.setIfInBounds_toArray, List.set_cons_zero, List.set_cons_succ]
        refine wpAnyH_take (i := 12) (v := undef) (List.getElem?_toArray.trans rfl) (by kernel_rfl) (by kernel_rfl) (by kernel_rfl) (fun _ _ _ h => h) (Or.inr ⟨by first | (simp [Region.wanted, yielded]; done) | simp [Region.wanted, yielded, undef], rfl⟩) (by assumption) ?_
        try simp only [Act.put, List.setIfInBounds_toArray, List.set_cons_zero, List.set_cons_succ]
        refine wpAnyH_take (i := 13) (v := undef) (List.getElem?_toArray.trans rfl) (by kernel_rfl) (by kernel_rfl) (by kernel_rfl) (fun _ _ _ h => h) (Or.inr ⟨by first | (simp [Region.wanted, yielded]; done) | simp [Region.wanted, yielded, undef], rfl⟩) (by assumption) ?_
        try simp only [Act.put, List.setIfInBounds_toArray, List.set_cons_zero, List.set_cons_succ]
        refine wpAnyH_take (i := 14) (v := undef) (List.getElem?_toArray.trans rfl) (by kernel_rfl) (by kernel_rfl) (by kernel_rfl) (fun _ _ _ h => h) (Or.inr ⟨by first | (simp [Region.wanted, yielded]; done) | simp [Region.wanted, yielded, undef], rfl⟩) (by assumption) ?_
        try simp only [Act.put, List.setIfInBounds_toArray, List.set_cons_zero, List.set_cons_succ]
        refine wpAnyH_take (i := 15) (v := undef) (List.getElem?_toArray.trans rfl) (by kernel_rfl) (by kernel_rfl) (by kernel_rfl) (fun _ _ _ h => h) (Or.inr ⟨by first | (simp [Region.wanted, yielded]; done) | simp [Region.wanted, yielded, undef], rfl⟩) (by assumption) ?_
        try simp only [Act.put, List.setIfInBounds_toArray, List.set_cons_zero, List.set_cons_succ]
        refine wpAnyH_take (i := 16) (v := ?vb16) (List.getElem?_toArray.trans rfl) (by kernel_rfl) (by kernel_rfl) (by kernel_rfl) (fun _ _ _ h => h) (Or.inl ⟨by rfl, ?yb16⟩) (by assumption) ?rb16
        case yb16 => (intro w hSw; (try dsimp only at hSw); go_simp; try with_reducible rfl)
        try simp only [Act.put, List.setIfInBounds_toArray, List.set_cons_zero, List.set_cons_succ]
        refine wpAnyH_take (i := 17) (v := ?vb17) (List.getElem?_toArray.trans rfl) (by kernel_rfl) (by kernel_rfl) (by kernel_rfl) (fun _ _ _ h => h) (Or.inl ⟨by rfl, ?yb17⟩) (by assumption) ?rb17
        case yb17 => (intro w hSw; (try dsimp only at hSw); go_simp; try with_reducible rfl)
        try simp only [Act.put, List.setIfInBounds_toArray, List.set_cons_zero, List.set_cons_succ]
        refine wpAnyH_done (by kernel_rfl) ?_ _
        go_wp2
        go_roundw
        case rel => exact ⟨j + 1, by omega, by go_num, hyes, bB⟩
        case measure => simp [intOf]; omega
      · have u' : Cells7 (wr.alloc O1).drew b (off + m * 7) Q A' c' := q'.below hA
        have u0 : Cells7 (wr.alloc O1) b (off + m * 7) Q A' c' := q'.below ((Below.refl _ _).alloc (Nat.le_refl _) _)
        have gy := seven_both Q0 u0
        obtain ⟨L, hLL⟩ : ∃ L, decide (Q.d < P.d) = L := ⟨_, rfl⟩
        rw [hLL] at hok
        have hge2 : decide (P.d ≤ Q.d) = !L := by rw [← hLL]; by_cases h : Q.d < P.d <;> simp [h] <;> omega
        have hw : IntKind.wrap .i64 ((j : Int) - 1) = (m : Int) := by rw [IntKind.wrap_i64]; omega
        have hmn : m < n := by omega
        have HJ := Lib.hid (show 0 < j by omega)
        clear gz q' hLL hjm u0
        cases L
        · have hno := Lib.hid (HN.out (by rw [hok]; rfl))
          have hg3 : decide (P.d ≤ Q.d) = true := by simpa using hge2
          clear HN HY hok hge2
          obtain ⟨x0, x1, x2, x3, x4, x5, x6⟩ := g
          subst hO1
          go_upto_region 6 with fail
          refine wp_region_held_drew (S := (fun w' => w'.cell? ⟨wr.heap.size, 0, none⟩ = some (.int .i64 P.d) ∧ w'.cell? ⟨wr.heap.size, 1, none⟩ = some (.int .i64 P.k) ∧ w'.cell? ⟨wr.heap.size, 2, none⟩ = some (.slice A P.zs.length cc) ∧ w'.cell? ⟨wr.heap.size, 3, none⟩ = some (.int .i64 P.h) ∧ w'.cell? ⟨wr.heap.size, 4, none⟩ = some (.int .i64 P.p) ∧ w'.cell? ⟨wr.heap.size, 5, none⟩ = some (.int .i64 P.q) ∧ w'.cell? ⟨wr.heap.size, 6, none⟩ = some (.int .i64 P.u) ∧ w'.cell? ⟨b, off + m * 7, none⟩ = some (.int .i64 Q.d) ∧ w'.cell? ⟨b, off + m * 7 + 1, none⟩ = some (.int .i64 Q.k) ∧ w'.cell? ⟨b, off + m * 7 + 2, none⟩ = some (.slice A' Q.zs.length c') ∧ w'.cell? ⟨b, off + m * 7 + 3, none⟩ = some (.int .i64 Q.h) ∧ w'.cell? ⟨b, off + m * 7 + 4, none⟩ = some (.int .i64 Q.p) ∧ w'.cell? ⟨b, off + m * 7 + 5, none⟩ = some (.int .i64 Q.q) ∧ w'.cell? ⟨b, off + m * 7 + 6, none⟩ = some (.int .i64 Q.u))) (by kernel_rfl) gy (fun hHeld => ?_)
          refine wpAnyH_take (i := 0) (v := ?vc0) (List.getElem?_toArray.trans rfl) (by kernel_rfl) (by kernel_rfl) (by kernel_rfl) (fun _ _ _ h => h) (Or.inl ⟨by rfl, ?yc0⟩) (by assumption) ?rc0
          case yc0 => (intro w hSw; (try dsimp only at hSw); go_simp; try with_reducible rfl)
          try simp only [Act.put, List.setIfInBounds_toArray, List.set_cons_zero, List.set_cons_succ]
          refine wpAnyH_ready (rs := [1]) (by kernel_rfl) (by simp) ?_
          refine AllReadyH.cons (List.getElem?_toArray.trans rfl) (fun K hK => ?_) AllReadyH.nil
          go_simp
          go_at_call 82; refine (hT _ r).mono ?_; rintro e w9 ⟨rfl, hb9⟩; have Q1 := Q1.below hb9; have bB := bB.trans (hb9.mono bB.size); have u' := u'.below hb9; have s9 := seven_both Q1 u'
          refine hK.out _ _ s9 (fun hHeld => ?_)
          clear hK K
          try simp only [Act.put, List.setIfInBounds_toArray, List.set_cons_zero, List.set_cons_succ]
          refine wpAnyH_take (i := 2) (v := ?vc2) (List.getElem?_toArray.trans rfl) (by kernel_rfl) (by kernel_rfl) (by kernel_rfl) (fun _ _ _ h => h) (Or.inl ⟨by rfl, ?yc2⟩) (by assumption) ?rc2
          case yc2 => (intro w hSw; (try dsimp only at hSw); go_simp; try with_reducible rfl)
          try simp only [Act.put, List.setIfInBounds_toArray, List.set_cons_zero, List.set_cons_succ]
          refine wpAnyH_take (i := 3) (v := ?vc3) (List.getElem?_toArray.trans rfl) (by kernel_rfl) (by kernel_rfl) (by kernel_rfl) (fun _ _ _ h => h) (Or.inl ⟨by rfl, ?yc3⟩) (by assumption) ?rc3
          case yc3 => (intro w hSw; (try dsimp only at hSw); go_simp; try with_reducible rfl)
          try simp only [Act.put, List.setIfInBounds_toArray, List.set_cons_zero, List.set_cons_succ]
          refine wpAnyH_take (i := 4) (v := ?vc4) (List.getElem?_toArray.trans rfl) (by kernel_rfl) (by kernel_rfl) (by kernel_rfl) (fun _ _ _ h => h) (Or.inl ⟨by rfl, ?yc4⟩) (by assumption) ?rc4
          case yc4 => (intro w hSw; (try dsimp only at hSw); go_simp; try with_reducible rfl)
          try simp only [Act.put, List.setIfInBounds_toArray, List.set_cons_zero, List.set_cons_succ]
          refine wpAnyH_take (i := 5) (v := .bool true) (List.getElem?_toArray.trans rfl) (by kernel_rfl) (by kernel_rfl) (by kernel_rfl) (fun _ _ _ h => h) (Or.inl ⟨by rfl, ?yc5⟩) (by assumption) ?rc5
          case yc5 => (intro w hSw; (try dsimp only at hSw); go_simp; try simp [HJ.out])
          try simp only [Act.put, List.setIfInBounds_toArray, List.set_cons_zero, List.set_cons_succ]
          refine wpAnyH_take (i := 6) (v := ?vc6) (List.getElem?_toArray.trans rfl) (by kernel_rfl) (by kernel_rfl) (by kernel_rfl) (fun _ _ _ h => h) (Or.inl ⟨by rfl, ?yc6⟩) (by assumption) ?rc6
          case yc6 => (intro w hSw; (try dsimp only at hSw); go_simp; try with_reducible rfl)
          try simp only [Act.put, List.setIfInBounds_toArray, List.set_cons_zero, List.set_cons_succ]
          refine wpAnyH_take (i := 7) (v := ?vc7) (List.getElem?_toArray.trans rfl) (by kernel_rfl) (by kernel_rfl) (by kernel_rfl) (fun _ _ _ h => h) (Or.inl ⟨by rfl, ?yc7⟩) (by assumption) ?rc7
          case yc7 => (intro w hSw; (try dsimp only at hSw); go_simp; try with_reducible rfl)
          try simp only [Act.put, List.setIfInBounds_toArray, List.set_cons_zero, List.set_cons_succ]
          refine wpAnyH_take (i := 8) (v := ?vc8) (List.getElem?_toArray.trans rfl) (by kernel_rfl) (by kernel_rfl) (by kernel_rfl) (fun _ _ _ h => h) (Or.inl ⟨by rfl, ?yc8⟩) (by assumption) ?rc8
          case yc8 => (intro w hSw; (try dsimp only at hSw); go_simp; try with_reducible rfl)
          try simp only [Act.put, List.setIfInBounds_toArray, List.set_cons_zero, List.set_cons_succ]
          refine wpAnyH_take (i := 9) (v := .int .i64 (m : Int)) (List.getElem?_toArray.trans rfl) (by kernel_rfl) (by kernel_rfl) (by kernel_rfl) (fun _ _ _ h => h) (Or.inl ⟨by rfl, ?yc9⟩) (by assumption) ?rc9
          case yc9 => (intro w hSw; (try dsimp only at hSw); go_simp; try simp [hw])
          try simp only [Act.put, List.setIfInBounds_toArray, List.set_cons_zero, List.set_cons_succ]
          refine wpAnyH_take (i := 10) (v := ?vc10) (List.getElem?_toArray.trans rfl) (by kernel_rfl) (by kernel_rfl) (by kernel_rfl) (fun _ _ _ h => h) (Or.inl ⟨by rfl, ?yc10⟩) (by assumption) ?rc10
          case yc10 => (intro w hSw; (try dsimp only at hSw); go_simp; try with_reducible rfl)
          try simp only [Act.put, List.setIfInBounds_toArray, List.set_cons_zero, List.set_cons_succ]
          refine wpAnyH_take (i := 11) (v := ?vc11) (List.getElem?_toArray.trans rfl) (by kernel_rfl) (by kernel_rfl) (by kernel_rfl) (fun _ _ _ h => h) (Or.inl ⟨by rfl, ?yc11⟩) (by assumption) ?rc11
          case yc11 => (intro w hSw; (try dsimp only at hSw); go_simp; try with_reducible rfl)
          try simp only [Act.put, List.setIfInBounds_toArray, List.set_cons_zero, List.set_cons_succ]
          refine wpAnyH_take (i := 12) (v := ?vc12) (List.getElem?_toArray.trans rfl) (by kernel_rfl) (by kernel_rfl) (by kernel_rfl) (fun _ _ _ h => h) (Or.inl ⟨by rfl, ?yc12⟩) (by assumption) ?rc12
          case yc12 => (intro w hSw; (try dsimp only at hSw); go_simp; try with_reducible rfl)
          try simp only [Act.put, List.setIfInBounds_toArray, List.set_cons_zero, List.set_cons_succ]
          refine wpAnyH_take (i := 13) (v := ?vc13) (List.getElem?_toArray.trans rfl) (by kernel_rfl) (by kernel_rfl) (by kernel_rfl) (fun _ _ _ h => h) (Or.inl ⟨by rfl, ?yc13⟩) (by assumption) ?rc13
          case yc13 => (intro w hSw; (try dsimp only at hSw); go_simp; try with_reducible rfl)
          try simp only [Act.put, List.setIfInBounds_toArray, List.set_cons_zero, List.set_cons_succ]
          refine wpAnyH_take (i := 14) (v := ?vc14) (List.getElem?_toArray.trans rfl) (by kernel_rfl) (by kernel_rfl) (by kernel_rfl) (fun _ _ _ h => h) (Or.inl ⟨by rfl, ?yc14⟩) (by assumption) ?rc14
          case yc14 => (intro w hSw; (try dsimp only at hSw); go_simp; try with_reducible rfl)
          try simp only [Act.put, List.setIfInBounds_toArray, List.set_cons_zero, List.set_cons_succ]
          refine wpAnyH_take (i := 15) (v := .bool true) (List.getElem?_toArray.trans rfl) (by kernel_rfl) (by kernel_rfl) (by kernel_rfl) (fun _ _ _ h => h) (Or.inl ⟨by rfl, ?yc15⟩) (by assumption) ?rc15
          case yc15 => (intro w hSw; (try dsimp only at hSw); go_simp; try simp [hg3])
          try simp only [Act.put, List.setIfInBounds_toArray, List.set_cons_zero, List.set_cons_succ]
          refine wpAnyH_take (i := 16) (v := ?vc16) (List.getElem?_toArray.trans rfl) (by kernel_rfl) (by kernel_rfl) (by kernel_rfl) (fun _ _ _ h => h) (Or.inl ⟨by rfl, ?yc16⟩) (by assumption) ?rc16
          case yc16 => (intro w hSw; (try dsimp only at hSw); go_simp; try with_reducible rfl)
          try simp only [Act.put, List.setIfInBounds_toArray, List.set_cons_zero, List.set_cons_succ]
          refine wpAnyH_take (i := 17) (v := ?vc17) (List.getElem?_toArray.trans rfl) (by kernel_rfl) (by kernel_rfl) (by kernel_rfl) (fun _ _ _ h => h) (Or.inl ⟨by rfl, ?yc17⟩) (by assumption) ?rc17
          case yc17 => (intro w hSw; (try dsimp only at hSw); go_simp; try with_reducible rfl)
          try simp only [Act.put, List.setIfInBounds_toArray, List.set_cons_zero, List.set_cons_succ]
          refine wpAnyH_done (by kernel_rfl) ?_ _
          have hgc : w9.cell? ⟨0, 0, none⟩ = some (.iface 166 (.pointer (some a0))) := (Mem.cell_of_heap (bB.block _ (Mem.cell_lt hg))).trans hg
          go_wp2
          go_ret
          exact ⟨by rw [← HR.out, hno.out]; rfl, bB⟩
        · have hyes := Lib.hid (HY.out (by rw [hok]; rfl))
          have hg3 : decide (P.d ≤ Q.d) = false := by simpa using hge2
          clear HN HY hok hge2
          obtain ⟨x0, x1, x2, x3, x4, x5, x6⟩ := g
          subst hO1
          go_upto_region 6 with fail
          refine wp_region_held_drew (S := (fun w' => w'.cell? ⟨wr.heap.size, 0, none⟩ = some (.int .i64 P.d) ∧ w'.cell? ⟨wr.heap.size, 1, none⟩ = some (.int .i64 P.k) ∧ w'.cell? ⟨wr.heap.size, 2, none⟩ = some (.slice A P.zs.length cc) ∧ w'.cell? ⟨wr.heap.size, 3, none⟩ = some (.int .i64 P.h) ∧ w'.cell? ⟨wr.heap.size, 4, none⟩ = some (.int .i64 P.p) ∧ w'.cell? ⟨wr.heap.size, 5, none⟩ = some (.int .i64 P.q) ∧ w'.cell? ⟨wr.heap.size, 6, none⟩ = some (.int .i64 P.u) ∧ w'.cell? ⟨b, off + m * 7, none⟩ = some (.int .i64 Q.d) ∧ w'.cell? ⟨b, off + m * 7 + 1, none⟩ = some (.int .i64 Q.k) ∧ w'.cell? ⟨b, off + m * 7 + 2, none⟩ = some (.slice A' Q.zs.length c') ∧ w'.cell? ⟨b, off + m * 7 + 3, none⟩ = some (.int .i64 Q.h) ∧ w'.cell? ⟨b, off + m * 7 + 4, none⟩ = some (.int .i64 Q.p) ∧ w'.cell? ⟨b, off + m * 7 + 5, none⟩ = some (.int .i64 Q.q) ∧ w'.cell? ⟨b, off + m * 7 + 6, none⟩ = some (.int .i64 Q.u))) (by kernel_rfl) gy (fun hHeld => ?_)
          refine wpAnyH_take (i := 0) (v := ?vd0) (List.getElem?_toArray.trans rfl) (by kernel_rfl) (by kernel_rfl) (by kernel_rfl) (fun _ _ _ h => h) (Or.inl ⟨by rfl, ?yd0⟩) (by assumption) ?rd0
          case yd0 => (intro w hSw; (try dsimp only at hSw); go_simp; try with_reducible rfl)
          try simp only [Act.put, List.setIfInBounds_toArray, List.set_cons_zero, List.set_cons_succ]
          refine wpAnyH_ready (rs := [1]) (by kernel_rfl) (by simp) ?_
          refine AllReadyH.cons (List.getElem?_toArray.trans rfl) (fun K hK => ?_) AllReadyH.nil
          go_simp
          go_at_call 82; refine (hT _ r).mono ?_; rintro e w9 ⟨rfl, hb9⟩; have Q1 := Q1.below hb9; have bB := bB.trans (hb9.mono bB.size); have u' := u'.below hb9; have s9 := seven_both Q1 u'
          refine hK.out _ _ s9 (fun hHeld => ?_)
          clear hK K
          try simp only [Act.put, List.setIfInBounds_toArray, List.set_cons_zero, List.set_cons_succ]
          refine wpAnyH_take (i := 2) (v := ?vd2) (List.getElem?_toArray.trans rfl) (by kernel_rfl) (by kernel_rfl) (by kernel_rfl) (fun _ _ _ h => h) (Or.inl ⟨by rfl, ?yd2⟩) (by assumption) ?rd2
          case yd2 => (intro w hSw; (try dsimp only at hSw); go_simp; try with_reducible rfl)
          try simp only [Act.put, List.setIfInBounds_toArray, List.set_cons_zero, List.set_cons_succ]
          refine wpAnyH_take (i := 3) (v := ?vd3) (List.getElem?_toArray.trans rfl) (by kernel_rfl) (by kernel_rfl) (by kernel_rfl) (fun _ _ _ h => h) (Or.inl ⟨by rfl, ?yd3⟩) (by assumption) ?rd3
          case yd3 => (intro w hSw; (try dsimp only at hSw); go_simp; try with_reducible rfl)
          try simp only [Act.put, List.setIfInBounds_toArray, List.set_cons_zero, List.set_cons_succ]
          refine wpAnyH_take (i := 4) (v := ?vd4) (List.getElem?_toArray.trans rfl) (by kernel_rfl) (by kernel_rfl) (by kernel_rfl) (fun _ _ _ h => h) (Or.inl ⟨by rfl, ?yd4⟩) (by assumption) ?rd4
          case yd4 => (intro w hSw; (try dsimp only at hSw); go_simp; try with_reducible rfl)
          try simp only [Act.put, List.setIfInBounds_toArray, List.set_cons_zero, List.set_cons_succ]
          refine wpAnyH_take (i := 5) (v := .bool true) (List.getElem?_toArray.trans rfl) (by kernel_rfl) (by kernel_rfl) (by kernel_rfl) (fun _ _ _ h => h) (Or.inl ⟨by rfl, ?yd5⟩) (by assumption) ?rd5
          case yd5 => (intro w hSw; (try dsimp only at hSw); go_simp; try simp [HJ.out])
          try simp only [Act.put, List.setIfInBounds_toArray, List.set_cons_zero, List.set_cons_succ]
          refine wpAnyH_take (i := 6) (v := ?vd6) (List.getElem?_toArray.trans rfl) (by kernel_rfl) (by kernel_rfl) (by kernel_rfl) (fun _ _ _ h => h) (Or.inl ⟨by rfl, ?yd6⟩) (by assumption) ?rd6
          case yd6 => (intro w hSw; (try dsimp only at hSw); go_simp; try with_reducible rfl)
          try simp only [Act.put, List.setIfInBounds_toArray, List.set_cons_zero, List.set_cons_succ]
          refine wpAnyH_take (i := 7) (v := ?vd7) (List.getElem?_toArray.trans rfl) (by kernel_rfl) (by kernel_rfl) (by kernel_rfl) (fun _ _ _ h => h) (Or.inl ⟨by rfl, ?yd7⟩) (by assumption) ?rd7
          case yd7 => (intro w hSw; (try dsimp only at hSw); go_simp; try with_reducible rfl)
          try simp only [Act.put, List.setIfInBounds_toArray, List.set_cons_zero, List.set_cons_succ]
          refine wpAnyH_take (i := 8) (v := ?vd8) (List.getElem?_toArray.trans rfl) (by kernel_rfl) (by kernel_rfl) (by kernel_rfl) (fun _ _ _ h => h) (Or.inl ⟨by rfl, ?yd8⟩) (by assumption) ?rd8
          case yd8 => (intro w hSw; (try dsimp only at hSw); go_simp; try with_reducible rfl)
          try simp only [Act.put, List.setIfInBounds_toArray, List.set_cons_zero, List.set_cons_succ]
          refine wpAnyH_take (i := 9) (v := .int .i64 (m : Int)) (List.getElem?_toArray.trans rfl) (by kernel_rfl) (by kernel_rfl) (by kernel_rfl) (fun _ _ _ h => h) (Or.inl ⟨by rfl, ?yd9⟩) (by assumption) ?rd9
          case yd9 => (intro w hSw; (try dsimp only at hSw); go_simp; try simp [hw])
          try simp only [Act.put, List.setIfInBounds_toArray, List.set_cons_zero, List.set_cons_succ]
          refine wpAnyH_take (i := 10) (v := ?vd10) (List.getElem?_toArray.trans rfl) (by kernel_rfl) (by kernel_rfl) (by kernel_rfl) (fun _ _ _ h => h) (Or.inl ⟨by rfl, ?yd10⟩) (by assumption) ?rd10
          case yd10 => (intro w hSw; (try dsimp only at hSw); go_simp; try with_reducible rfl)
          try simp only [Act.put, List.setIfInBounds_toArray, List.set_cons_zero, List.set_cons_succ]
          refine wpAnyH_take (i := 11) (v := ?vd11) (List.getElem?_toArray.trans rfl) (by kernel_rfl) (by kernel_rfl) (by kernel_rfl) (fun _ _ _ h => h) (Or.inl ⟨by rfl, ?yd11⟩) (by assumption) ?rd11
          case yd11 => (intro w hSw; (try dsimp only at hSw); go_simp; try with_reducible rfl)
          try simp only [Act.put, List.setIfInBounds_toArray, List.set_cons_zero, List.set_cons_succ]
          refine wpAnyH_take (i := 12) (v := ?vd12) (List.getElem?_toArray.trans rfl) (by kernel_rfl) (by kernel_rfl) (by kernel_rfl) (fun _ _ _ h => h) (Or.inl ⟨by rfl, ?yd12⟩) (by assumption) ?rd12
          case yd12 => (intro w hSw; (try dsimp only at hSw); go_simp; try with_reducible rfl)
          try simp only [Act.put, List.setIfInBounds_toArray, List.set_cons_zero, List.set_cons_succ]
          refine wpAnyH_take (i := 13) (v := ?vd13) (List.getElem?_toArray.trans rfl) (by kernel_rfl) (by kernel_rfl) (by kernel_rfl) (fun _ _ _ h => h) (Or.inl ⟨by rfl, ?yd13⟩) (by assumption) ?rd13
          case yd13 => (intro w hSw; (try dsimp only at hSw); go_simp; try with_reducible rfl)
          try simp only [Act.put, List.setIfInBounds_toArray, List.set_cons_zero, List.set_cons_succ]
          refine wpAnyH_take (i := 14) (v := ?vd14) (List.getElem?_toArray.trans rfl) (by kernel_rfl) (by kernel_rfl) (by kernel_rfl) (fun _ _ _ h => h) (Or.inl ⟨by rfl, ?yd14⟩) (by assumption) ?rd14
          case yd14 => (intro w hSw; (try dsimp only at hSw); go_simp; try with_reducible rfl)
          try simp only [Act.put, List.setIfInBounds_toArray, List.set_cons_zero, List.set_cons_succ]
          refine wpAnyH_take (i := 15) (v := .bool false) (List.getElem?_toArray.trans rfl) (by kernel_rfl) (by kernel_rfl) (by kernel_rfl) (fun _ _ _ h => h) (Or.inl ⟨by rfl, ?yd15⟩) (by assumption) ?rd15
          case yd15 => (intro w hSw; (try dsimp only at hSw); go_simp; try simp [hg3])
          try simp only [Act.put, List.setIfInBounds_toArray, List.set_cons_zero, List.set_cons_succ]
          refine wpAnyH_take (i := 16) (v := ?vd16) (List.getElem?_toArray.trans rfl) (by kernel_rfl) (by kernel_rfl) (by kernel_rfl) (fun _ _ _ h => h) (Or.inl ⟨by rfl, ?yd16⟩) (by assumption) ?rd16
          case yd16 => (intro w hSw; (try dsimp only at hSw); go_simp; try with_reducible rfl)
          try simp only [Act.put, List.setIfInBounds_toArray, List.set_cons_zero, List.set_cons_succ]
          refine wpAnyH_take (i := 17) (v := ?vd17) (List.getElem?_toArray.trans rfl) (by kernel_rfl) (by kernel_rfl) (by kernel_rfl) (fun _ _ _ h => h) (Or.inl ⟨by rfl, ?yd17⟩) (by assumption) ?rd17
          case yd17 => (intro w hSw; (try dsimp only at hSw); go_simp; try with_reducible rfl)
          try simp only [Act.put, List.setIfInBounds_toArray, List.set_cons_zero, List.set_cons_succ]
          refine wpAnyH_done (by kernel_rfl) ?_ _
          go_wp2
          go_roundw
          case rel => exact ⟨j + 1, by omega, by go_num, hyes, bB⟩
          case measure => simp [intOf]; omega
    · have hd : decide ((j : Int) < (n : Int)) = false := by simp; omega
      have HE := Lib.hid (show j = n by omega)
      go_wp2
      go_ret
      have h1 := HF.out
      rw [HE.out, ← HL.out] at h1
      have hRt : R = true := by rw [← HR.out, storeB_yes h1, HL.out]; simp; omega
      exact ⟨by rw [hRt]; rfl, hbl⟩

set_option maxHeartbeats 1000000 in
set_option maxRecDepth 100000 in
theorem store_impl (lo hi : Nat) (w : World) (a : Option Addr) (n c : Nat) (l : List Prt) (a0 : Addr) (hr : PRow lo hi w a n l) (hh : hi ≤ w.heap.size) (hm : room l ≤ 1048577) (hg : NoStore a0 w) :
    Calls Tryz.prog 14 #[.slice a n c] w fun e w' => e = .returned (.bool (storeB l)) ∧ Below w.heap.size w w' := by
  have hC := check_store lo hi w.drew a n c l a0 (hr.drewN 1) hh hm hg
  obtain ⟨R, hR⟩ : ∃ R, storeB l = R := ⟨_, rfl⟩
  rw [hR] at hC ⊢
  have hgc : w.cell? ⟨0, 0, none⟩ = some (.iface 166 (.pointer (some a0))) := hg
  have hgd : w.drew.cell? ⟨0, 0, none⟩ = some (.iface 166 (.pointer (some a0))) := hg
  have hlt := Mem.cell_lt hgc
  clear hR hr
  cases R
  · have hI := is_same a0
    rw [show verdict false a0 = sent a0 from rfl] at hC
    unfold sent at hC hI
    go_enter Tryz.func14, Tryz.ntmps14
    go_upto_region 1 with fail
    go_region_held3 (fun w' => w'.cell? ⟨0, 0, none⟩ = some (.iface 166 (.pointer (some a0))))
      (first | (with_reducible exact s9) | (with_reducible exact hgd) | assumption | go_keep)
      (first
      | (go_at_call 51; refine hC.mono ?_; rintro e w9 ⟨rfl, hb9⟩; have s9 : w9.cell? ⟨0, 0, none⟩ = some (.iface 166 (.pointer (some a0))) := (Mem.cell_of_heap (hb9.block _ hlt)).trans hgc; have bB : Below w.heap.size w w9 := (Below.refl w.heap.size w).drew.trans hb9)
      | (go_at_call 50; refine (hI _).mono ?_; rintro e w8 ⟨rfl, rfl⟩; have s9 := s9))
    all_goals
      go_wp2
      go_ret
      exact ⟨rfl, bB⟩
  · have hI := is_nil a0
    rw [show verdict true a0 = .nilIface from rfl] at hC
    unfold sent at hI
    go_enter Tryz.func14, Tryz.ntmps14
    go_upto_region 1 with fail
    go_region_held3 (fun w' => w'.cell? ⟨0, 0, none⟩ = some (.iface 166 (.pointer (some a0))))
      (first | (with_reducible exact s9) | (with_reducible exact hgd) | assumption | go_keep)
      (first
      | (go_at_call 51; refine hC.mono ?_; rintro e w9 ⟨rfl, hb9⟩; have s9 : w9.cell? ⟨0, 0, none⟩ = some (.iface 166 (.pointer (some a0))) := (Mem.cell_of_heap (hb9.block _ hlt)).trans hgc; have bB : Below w.heap.size w w9 := (Below.refl w.heap.size w).drew.trans hb9)
      | (go_at_call 50; refine (hI _).mono ?_; rintro e w8 ⟨rfl, rfl⟩; have s9 := s9))
    all_goals
      go_wp2
      go_ret
      exact ⟨rfl, bB⟩
end Go.Proofs.YtedjclnojocjkaaGreatDoor.Parts
