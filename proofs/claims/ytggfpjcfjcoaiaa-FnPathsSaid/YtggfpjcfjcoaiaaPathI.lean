/-
  PathTo of the program: the roots beside the way, gathered by a function that is handed to climb.
  Conditions: the row lies in memory, at most 10^12 digests.
-/
import Derived.Test.YtggfpjcfjcoaiaaPathS
namespace Go.Proofs.Ytggfpjcfjcoaiaa.Tre
open Go Go.RowKit Go.Proofs.Ytggfpjcfjcoaiaa.Mem Go.Proofs.Ytggfpjcfjcoaiaa.Hsh
set_option linter.unusedVariables false

/-- An append of one number onto a row of the call's own, and where the row lies then. -/
theorem step_append_place {P : Program} {ops : Array Oper} {o : Oper} {a : Act} {w : World} {K : Act → World → Prop} {Q : Exit → Act → World → Prop} {E : Prop} {k : IntKind} (hgd : o.guard = none) (s x : Operand) (t : TypeId)
    (ho : o.op = .call { callee := .builtin .append, args := #[s, x], argTypes := #[t, t] })
    (base e : Nat) (i : TypeInfo) (z : Value) (bytes : Nat) (ht : P.underlying t = some (.slice e)) (hi : P.info? e = some i) (hz : i.zero = some z)
    (hsize : i.size = 1) (hby : i.bytes = bytes) (hzs : z.cells.size = 1)
    (v : Value) (n : Nat) (xs : List Int) (hs : a.eval s = v) (hown : OwnI k e base w v n xs)
    (g c : Nat) (q : Int) (hx : a.eval x = .slice (some ⟨g, 0, none⟩) 1 c) (hr : w.cell? ⟨g, 0, none⟩ = some (.int k q))
    (h63 : n + 1 ≤ maxLen) (hbytes : (n + 1) * bytes ≤ 140737488355328) (hbase : base ≤ w.heap.size)
    (h : ∀ a' c' w', OwnI k e base w' (.slice a' (n + 1) c') (n + 1) (xs ++ [q]) → w.grownBy w' v.ownBlock → ((Value.slice a' (n + 1) c').ownBlock = v.ownBlock ∨ ∀ j, (Value.slice a' (n + 1) c').ownBlock = some j → w.heap.size ≤ j) → K (a.put o.dst (.slice a' (n + 1) c')) w') :
    if Region.wanted o (yielded ops a.tmps) = true then Oper.wp P o a w K Q else E := by
  have hw : Region.wanted o (yielded ops a.tmps) = true := by simp [Region.wanted, hgd]
  rw [if_pos hw]
  have hnews : ∀ j u, ([q].map (Value.int k))[j]? = some u → w.cell? ((⟨g, 0, none⟩ : Addr).add j) = some u := by
    intro j u hu
    cases j with
    | zero => simp at hu; subst hu; exact hr
    | succ j => simp at hu
  have hl1 : ([q].map (Value.int k)).length = 1 * i.size := by rw [hsize]; rfl
  obtain ⟨v', w', hrun, h2, h3, _⟩ := run_append_own (P := P) w base t o.type e i z 1 bytes ht hi hz hsize hby hzs (by omega) v n _ hown ⟨g, 0, none⟩ 1 c ([q].map (Value.int k)) rfl hnews (ints_oneCell k [q]) h63 hbytes hbase
  have h2' : OwnI k e base w' v' (n + 1) (xs ++ [q]) := by unfold OwnI; rw [List.map_append]; exact h2
  obtain ⟨a', c', rfl⟩ : ∃ a c, v' = .slice a (n + 1) c := by
    rcases h2'.2 with ⟨_, h0⟩ | ⟨g, cap, cur, rfl, _⟩
    · omega
    · exact ⟨_, _, rfl⟩
  have hp : (Value.slice a' (n + 1) c').ownBlock = v.ownBlock ∨ ∀ j, (Value.slice a' (n + 1) c').ownBlock = some j → w.heap.size ≤ j := by
    rcases hown.2 with ⟨rfl, rfl⟩ | ⟨b, cap, cur, rfl, hbg, hg, hnc, hcm, hcs, htake⟩
    · have hr2 := run_append_nil (P := P) w t o.type e i z ht hi hz ⟨g, 0, none⟩ 1 c ([q].map (Value.int k)) hl1 hnews (by omega) (by omega) (by rw [hby]; omega)
      rw [hrun] at hr2
      injection hr2 with e1 _
      injection e1 with e1 _ _
      subst e1
      exact .inr fun j hj => by simp [Value.ownBlock] at hj; omega
    · by_cases hroom : n + 1 ≤ cap
      · have hr2 := run_append_room (P := P) w t o.type e i ht hi b n cap cur hg ⟨g, 0, none⟩ 1 c ([q].map (Value.int k)) hl1 hnews (ints_oneCell k [q]) hroom (by rw [hl1, hcs, hsize]; omega)
        rw [hrun] at hr2
        injection hr2 with e1 _
        injection e1 with e1 _ _
        subst e1
        exact .inl rfl
      · have hsmall : n + 1 ≤ 9223372036854775807 := by simp only [maxLen] at h63; omega
        have hr2 := run_append_grow (P := P) w t o.type e i z ht hi hz ⟨b, 0, none⟩ n cap (xs.map (Value.int k)) (by rw [hsize]; exact hown.1) (hown.cells (g := b) rfl) ⟨g, 0, none⟩ 1 c ([q].map (Value.int k)) hl1 hnews (by omega) (by omega) (growslice_fits (by omega) (by rw [hby]; exact hbytes))
        rw [hrun] at hr2
        injection hr2 with e1 _
        injection e1 with e1 _ _
        subst e1
        exact .inr fun j hj => by simp [Value.ownBlock] at hj; omega
  unfold Oper.wp execOp
  simp only [ho, resolve, invoke, builtin, Sem.run_bind, Sem.run_pure, Result.andThen_ok, List.map_toArray, List.map_cons, List.map_nil, hs, hx, hrun]
  exact h a' c' w' h2' h3 hp

/-- A variable of one cell that is no row of numbers. -/
theorem own_ne_box {k : IntKind} {e T base n b : Nat} {w : World} {v u : Value} {zs : List Int} (h : OwnI k e base w v n zs) (hb : w.heap[b]? = some (.cells #[u] T (0, 0))) (hne : e ≠ T) : some b ≠ v.ownBlock := by
  rcases h.2 with ⟨rfl, _⟩ | ⟨g, cap, cur, rfl, _, hg, _⟩
  · simp [Value.ownBlock]
  · intro he
    simp only [Value.ownBlock, Option.some.injEq] at he
    subst he
    rw [hb] at hg
    injection hg with hg
    injection hg with _ h2 _
    exact hne h2.symm
theorem ownI_set {k : IntKind} {e base n : Nat} {w : World} {v : Value} {zs : List Int} (h : OwnI k e base w v n zs) {a : Addr} (ha : some a.block ≠ v.ownBlock) (u : Value) : OwnI k e base (w.setCell a u) v n zs :=
  World.ownsRow.kept h (row := some a.block) ⟨rfl, rfl, rfl, by simp, fun i _ hne => heap_setCell_other w a i u (fun e => hne (by rw [e]))⟩ (.inr fun e => ha e.symm)

/-- What PathTo's function has: the row's variable in block B, the path's in block B + 2; D: the path's variable, and the block in which the path lies. -/
structure Gathers (B b off n c lo hi : Nat) (zs : List Int) (ps : List Int) (D : Nat → Prop) (w : World) (v : Value) (j : Nat) : Prop where
  held : Held B b off n c lo hi zs w
  box : w.heap[B + 2]? = some (.cells #[v] 24 (0, 0))
  own : OwnI .i64 3 (B + 1) w v j (ps.take j)
  dirty : ∀ i, D i ↔ i = B + 2 ∨ some i = v.ownBlock
theorem Gathers.below {B b off n c lo hi j : Nat} {zs ps : List Int} {D : Nat → Prop} {w w' : World} {v : Value} (h : Gathers B b off n c lo hi zs ps D w v j) (hb : Below w.heap.size w w') : Gathers B b off n c lo hi zs ps D w' v j :=
  ⟨h.held.below hb, by rw [hb.block _ (Array.getElem?_eq_some_iff.1 h.box).1]; exact h.box, h.own.below hb, h.dirty⟩
theorem Gathers.cells {B b off n c lo hi j : Nat} {zs ps : List Int} {D : Nat → Prop} {w : World} {v : Value} (h : Gathers B b off n c lo hi zs ps D w v j) :
    w.cell? ⟨B + 2, 0, none⟩ = some v ∧ w.frozen? ⟨B + 2, 0, none⟩ = false ∧ some (B + 2) ≠ v.ownBlock :=
  ⟨by simp [World.cell?, h.box], frozen_of_row w (B + 2) 0 _ _ h.box, own_ne_box h.own h.box (by decide)⟩
theorem Gathers.shape {B b off n c lo hi j : Nat} {zs ps : List Int} {D : Nat → Prop} {w : World} {v : Value} (h : Gathers B b off n c lo hi zs ps D w v j) : ∃ va vc, v = .slice va j vc := by
  rcases h.own.2 with ⟨rfl, rfl⟩ | ⟨g, cap, cur, rfl, _⟩
  · exact ⟨_, _, rfl⟩
  · exact ⟨_, _, rfl⟩
theorem Gathers.lies {B b off n c lo hi j : Nat} {zs ps : List Int} {D : Nat → Prop} {w : World} {v : Value} (h : Gathers B b off n c lo hi zs ps D w v j) (i : Nat) (hi : D i) : B + 1 ≤ i ∧ i < w.heap.size := by
  rcases (h.dirty i).1 hi with rfl | h1
  · exact ⟨by omega, (Array.getElem?_eq_some_iff.1 h.box).1⟩
  · exact World.ownsRow.lt h.own i h1.symm

theorem Gathers.next {B b off n c lo hi j : Nat} {zs ps : List Int} {D : Nat → Prop} {w wb w5 : World} {va a' : Option Addr} {vc c' : Nat} {r : Int} (h : Gathers B b off n c lo hi zs ps D w (.slice va j vc) j)
    (hb : Below w.heap.size w wb) (hg : wb.grownBy w5 (Value.slice va j vc).ownBlock) (ho : OwnI .i64 3 (B + 1) w5 (.slice a' (j + 1) c') (j + 1) (ps.take j ++ [r])) (hjl : ps.take j ++ [r] = ps.take (j + 1))
    (hp : (Value.slice a' (j + 1) c').ownBlock = (Value.slice va j vc).ownBlock ∨ ∀ i, (Value.slice a' (j + 1) c').ownBlock = some i → wb.heap.size ≤ i) (hh : hi ≤ B) :
    ∃ g, a' = some ⟨g, 0, none⟩ ∧ (w5.setCell ⟨B + 2, 0, none⟩ (.slice a' (j + 1) c')).cell? ⟨g, j, none⟩ = some (.int .i64 r) ∧ (w5.setCell ⟨B + 2, 0, none⟩ (.slice a' (j + 1) c')).cell? ⟨B + 2, 0, none⟩ = some (.slice a' (j + 1) c') ∧
      ∃ D', Gathers B b off n c lo hi zs ps D' (w5.setCell ⟨B + 2, 0, none⟩ (.slice a' (j + 1) c')) (.slice a' (j + 1) c') (j + 1) ∧ Spared D w (w5.setCell ⟨B + 2, 0, none⟩ (.slice a' (j + 1) c')) ∧ ∀ i, D' i → D i ∨ w.heap.size ≤ i := by
  have hG := h.below hb
  have hs := hb.size
  have hlt := (Array.getElem?_eq_some_iff.1 hG.box).1
  obtain ⟨d0, d1, d2⟩ := hG.cells
  have hlow : ∀ i, i ≤ B → some i ≠ (Value.slice va j vc).ownBlock := fun i hi e => by have := World.ownsRow.lt hG.own i e.symm; omega
  have hold : ∀ i, i ≤ B → (w5.setCell ⟨B + 2, 0, none⟩ (.slice a' (j + 1) c')).heap[i]? = wb.heap[i]? := fun i hi => by
    rw [heap_setCell_other _ _ _ _ (by simp; omega)]
    exact hg.block i (by omega) (hlow i hi)
  have hbox5 : w5.heap[B + 2]? = some (.cells #[.slice va j vc] 24 (0, 0)) := (hg.block (B + 2) hlt d2).trans hG.box
  have hne5 : some (B + 2) ≠ (Value.slice a' (j + 1) c').ownBlock := own_ne_box ho hbox5 (by decide)
  have hbox : (w5.setCell ⟨B + 2, 0, none⟩ (.slice a' (j + 1) c')).heap[B + 2]? = some (.cells #[.slice a' (j + 1) c'] 24 (0, 0)) := by
    have := heap_setCell_same w5 (B + 2) 0 _ _ (.slice a' (j + 1) c') hbox5
    simpa using this
  have hoF := ownI_set (a := ⟨B + 2, 0, none⟩) ho hne5 (.slice a' (j + 1) c')
  obtain ⟨g, rfl⟩ : ∃ g, a' = some ⟨g, 0, none⟩ := by
    rcases ho.2 with ⟨e, h0⟩ | ⟨g, cap, cur, e, _⟩
    · omega
    · injection e with e _ _; exact ⟨g, e⟩
  have hcell := World.ownsRow.cells (g := g) hoF rfl j (.int .i64 r) (by
    rw [List.getElem?_map, List.getElem?_append_right (by simp [List.length_take]; omega)]
    have hl := ho.len
    rw [List.length_append] at hl
    simp only [List.length_cons, List.length_nil] at hl
    rw [show j - (ps.take j).length = 0 by omega]; rfl)
  rw [add_pl, Nat.zero_add] at hcell
  refine ⟨g, rfl, hcell, by simp [World.cell?, hbox], fun i => i = B + 2 ∨ some i = (Value.slice (some ⟨g, 0, none⟩) (j + 1) c').ownBlock, ⟨⟨?_, ?_⟩, hbox, by rw [← hjl]; exact hoF, fun i => Iff.rfl⟩, ⟨hg.os.trans hb.os, hg.tape.trans hb.tape, hg.output.trans hb.output, ?_, ?_⟩, ?_⟩
  · rw [hold B (Nat.le_refl _)]; exact hG.held.1
  · exact hG.held.2.keep fun i _ _ h2 => hold i (by omega)
  · have := hg.size; simp; omega
  · intro i hi hD
    rw [heap_setCell_other _ _ _ _ (by intro e; exact hD ((h.dirty i).2 (.inl e)))]
    rw [hg.block i (by omega) (fun e => hD ((h.dirty i).2 (.inr e)))]
    exact hb.block i hi
  · rintro i (rfl | hi)
    · exact .inl ((h.dirty _).2 (.inl rfl))
    · rcases hp with hp | hp
      · exact .inl ((h.dirty _).2 (.inr (hi.trans hp)))
      · exact .inr (Nat.le_trans hs (hp i hi.symm))

set_option maxHeartbeats 4000000 in
set_option maxRecDepth 100000 in
theorem pathOther (B b off n c lo hi I : Nat) (zs : List Int) (hl : zs.length = n) (hc : n ≤ c) (hm : c ≤ maxLen) (hn : n ≤ 1000000000000) (hh : hi ≤ B) (wz : ∀ z ∈ zs, (Lit.int .i64 z).wf = true) :
    Beside Try.prog 31 #[.pointer (some ⟨B + 2, 0, none⟩), .pointer (some ⟨B, 0, none⟩)] (steps 0 n I) (fun j => (pathOf zs I).getD j 0) (fun j D w => ∃ v, Gathers B b off n c lo hi zs (pathOf zs I) D w v j) := by
  refine ⟨enters_of Try.func31 (by kernel_rfl) rfl, path_wf wz I, ?_, fun j D w w' h hb => by obtain ⟨v, h⟩ := h; exact ⟨v, h.below hb⟩, fun j D w h i hi => by obtain ⟨v, h⟩ := h; exact (h.lies i hi).2⟩
  rintro j x y _ _ D w hs rfl rfl ⟨v, hG⟩
  obtain ⟨f0, hi0, hz0, hz1, hz2⟩ := info_parts Nts.info
  obtain ⟨hv, h1, h2, h3⟩ := path_at (by rw [hl]; exact hs)
  have hj : j < n := by
    have := (List.getElem?_eq_some_iff.1 hs).1
    rw [steps_length] at this
    have := dep_at n I
    omega
  have hjl : (pathOf zs I).take j ++ [(pathOf zs I).getD j 0] = (pathOf zs I).take (j + 1) := by
    have hjj : j < (pathOf zs I).length := by rw [pathOf_len, hl, ← steps_length 0]; exact (List.getElem?_eq_some_iff.1 hs).1
    rw [List.take_succ_eq_append_getElem hjj, List.getD_eq_getElem?_getD, List.getElem?_eq_getElem hjj]; rfl
  rw [hl] at h2 h3
  have hlt := (Array.getElem?_eq_some_iff.1 hG.box).1
  have c0 : w.cell? ⟨B, 0, none⟩ = some (.slice (some ⟨b, off, none⟩) n c) := by simp [World.cell?, hG.held.1]
  have c2 : w.cell? ⟨B + 2, 0, none⟩ = some v := by simp [World.cell?, hG.box]
  have hyn : y ≤ c := by omega
  have hxy : x ≤ y := by omega
  have hcx : ¬ c = x := by omega
  have hR : ∀ W, Below w.heap.size w W → Calls Try.prog 11 #[.slice (some ⟨b, off + x, none⟩) (y - x) (c - x)] W fun e w' => e = .returned (.int .i64 ((pathOf zs I).getD j 0)) ∧ Below W.heap.size W w' := fun W hW => by
    rw [hv]
    exact root_impl lo hi (y - x) (c - x) W (some ⟨b, off + x, none⟩) (part zs x y) (row_part (hG.held.2.below hW) hxy h2) (by omega) (by omega) (by omega)
  have wr := path_wf wz I j
  obtain ⟨r, hr⟩ : ∃ r, Hid ((pathOf zs I).getD j 0 = r) := ⟨_, rfl⟩
  rw [hr.out] at hR wr hjl ⊢
  obtain ⟨va, vc, rfl⟩ := hG.shape
  have hj1 : (pathOf zs I).length ≤ n := by rw [pathOf_len, hl]; exact dep_at _ _
  have hW0 : Below w.heap.size w w := Below.refl _ _
  have HV := Lib.hid hv
  clear hv hs wz
  show Calls _ _ #[_, _, _, _] _ _
  go_enter Try.func31, Try.ntmps31
  go_wp2_with fail
  go_region_law (first
    | (go_simp; go_at_call 11; refine (hR _ ?_).mono ?_; (first | exact hW0 | exact hW0.drew); rintro e w8 ⟨rfl, hb8⟩; have hW8 : Below w.heap.size w w8 := (by first | exact hW0.trans (hb8.mono hW0.size) | exact hW0.drew.trans (hb8.mono hW0.size)); have hGa := (hG.below hW8).below ((Below.refl _ _).alloc (Nat.le_refl _) (.cells #[.int .i64 r] 3)); obtain ⟨d0, d1, d2⟩ := (hG.below hW8).cells; obtain ⟨g0, g1, g2⟩ := hGa.cells; have hra : (w8.alloc (.cells #[.int .i64 r] 3)).cell? ⟨w8.heap.size, 0, none⟩ = some (.int .i64 r) := (by rw [World.cell?_alloc_at _ _ _ _ rfl]; rfl))
    | (refine step_append_place rfl _ _ 24 rfl (B + 1) 3 f0 _ 8 Try.underlying24 hi0 hz0 hz1 hz2 rfl _ j _ rfl (by first | exact hGa.own | exact hGa.own.drewN 1) _ 1 r rfl ?c2 ?c3 ?c4 ?c5 ?_; (case c2 => exact hra); (case c3 => unfold maxLen; omega); (case c4 => omega); (case c5 => have := hW8.size; simp; omega); intro a' c' w5 ho5 hg5 hp5; have d0 : w5.cell? ⟨B + 2, 0, none⟩ = some (.slice va j vc) := (hg5.cell g0 g2); have d1 : w5.frozen? ⟨B + 2, 0, none⟩ = false := (World.frozen?_of_block (hg5.block (B + 2) (by have := hW8.size; simp; omega) g2)).trans g1))
  all_goals
    obtain ⟨g, rfl, k0, k1, D', hGF, hSF, hDF⟩ := hG.next ((hW8.alloc (by have := hW8.size; omega) _)) hg5 ho5 hjl hp5 hh
    clear hGa hra ho5 hg5 hp5 d0 d1 hG hR hW8 hb8 hW0 c0 c2 g0 g1 g2 d2 hlt
    go_wp2
    go_ret
    exact ⟨rfl, D', ⟨_, hGF⟩, hSF, hDF⟩

/-- The variables of PathTo, as it lays them. -/
def pathLaid (a : Option Addr) (n c : Nat) (w : World) : World :=
  ((w.alloc (.cells #[.slice a n c] 24)).alloc (.cells #[] 3)).alloc (.cells #[.slice (some ⟨w.heap.size + 1, 0, none⟩) 0 0] 24)
theorem pathLaid_below (a : Option Addr) (n c : Nat) (w : World) : Below w.heap.size w (pathLaid a n c w) := by
  unfold pathLaid
  exact (((Below.refl _ _).alloc (Nat.le_refl _) _).alloc (by simp) _).alloc (by simp; omega) _

set_option maxHeartbeats 1000000 in
set_option maxRecDepth 100000 in
theorem path_out (n c : Nat) (i : Int) (w : World) (a : Option Addr) (hi : i < 0 ∨ (n : Int) ≤ i) :
    Calls Try.prog 10 #[.slice a n c, .int .i64 i] w (Hands w []) := by
  have hb := pathLaid_below a n c w
  have ho : OwnI .i64 3 w.heap.size (pathLaid a n c w) (.slice (some ⟨w.heap.size + 1, 0, none⟩) 0 0) 0 [] := by
    have h1 := OwnI.made .i64 3 (base := w.heap.size) (w.alloc (.cells #[.slice a n c] 24)) (by simp)
    have h2 := h1.alloc (.cells #[.slice (some ⟨w.heap.size + 1, 0, none⟩) 0 0] 24)
    simpa [pathLaid] using h2
  unfold pathLaid at hb ho
  by_cases h0 : i < 0
  · go_enter Try.func10, Try.ntmps10
    go_wp2_with fail
    go_ret
    exact ⟨_, rfl, ho, hb⟩
  · have h1 : decide (i < 0) = false := by simp; omega
    have h2 : decide ((n : Int) ≤ i) = true := by simp; omega
    go_enter Try.func10, Try.ntmps10
    go_wp2_with fail
    go_ret
    exact ⟨_, rfl, ho, hb⟩

set_option maxHeartbeats 2000000 in
set_option maxRecDepth 100000 in
theorem path_in (lo hi n c b off I : Nat) (w : World) (zs : List Int) (hr : Row .i64 lo hi w (some ⟨b, off, none⟩) n zs) (hI : I < n) (hc : n ≤ c) (hm : c ≤ maxLen) (hn : n ≤ 1000000000000) (hh : hi ≤ w.heap.size) :
    Calls Try.prog 10 #[.slice (some ⟨b, off, none⟩) n c, .int .i64 I] w (Hands w (pathOf zs I)) := by
  have hmf : ∀ (fn : Fn) (first cap : Array Value) (w : World), (Instr.makeFunc fn first cap).run Try.prog w = .ok (.func fn first cap) w := fun _ _ _ _ => rfl
  have hl := hr.len
  have hB := pathLaid_below (some ⟨b, off, none⟩) n c w
  have hbx : (pathLaid (some ⟨b, off, none⟩) n c w).heap[w.heap.size]? = some (.cells #[.slice (some ⟨b, off, none⟩) n c] 24 (0, 0)) := by
    unfold pathLaid
    rw [Below.heap_alloc _ _ _ (by simp; omega), Below.heap_alloc _ _ _ (by simp)]
    exact heap_alloc_new w _
  have hG : Gathers w.heap.size b off n c lo hi zs (pathOf zs I) (fun i => i = w.heap.size + 2 ∨ some i = (Value.slice (some ⟨w.heap.size + 1, 0, none⟩) 0 0).ownBlock) (pathLaid (some ⟨b, off, none⟩) n c w) (.slice (some ⟨w.heap.size + 1, 0, none⟩) 0 0) 0 := by
    refine ⟨⟨hbx, hr.below hB⟩, ?_, ?_, fun i => Iff.rfl⟩
    · have := heap_alloc_new ((w.alloc (.cells #[.slice (some ⟨b, off, none⟩) n c] 24)).alloc (.cells #[] 3)) (.cells #[.slice (some ⟨w.heap.size + 1, 0, none⟩) 0 0] 24)
      simpa [pathLaid] using this
    · have h1 := OwnI.made .i64 3 (base := w.heap.size + 1) (w.alloc (.cells #[.slice (some ⟨b, off, none⟩) n c] 24)) (by simp)
      have h2 := h1.alloc (.cells #[.slice (some ⟨w.heap.size + 1, 0, none⟩) 0 0] 24)
      simpa [pathLaid] using h2
  have hGd := hG.below (below_drew _)
  have wd := hr.wf_at hI
  have hcl := climb_any 31 #[.pointer (some ⟨w.heap.size + 2, 0, none⟩), .pointer (some ⟨w.heap.size, 0, none⟩)] n I _ _ (pathOther w.heap.size b off n c lo hi I zs hl hc hm hn hh hr.wf) (zs.getD I 0) I wd _ (pathLaid (some ⟨b, off, none⟩) n c w).drew (by omega) hn (by omega) rfl ⟨_, hGd⟩
  obtain ⟨d, hd⟩ : ∃ d, Hid (zs.getD I 0 = d) := ⟨_, rfl⟩
  obtain ⟨c0, c1⟩ := hG.held.at hI hd
  rw [hd.out] at hcl
  have h1 : decide ((I : Int) < 0) = false := by simp
  have h2 : decide ((n : Int) ≤ (I : Int)) = false := by simp; omega
  have hdl : (pathOf zs I).take (dep n I) = pathOf zs I := by rw [List.take_of_length_le]; rw [pathOf_len, hl]; exact Nat.le_refl _
  have hpl : dep n I = (pathOf zs I).length := by rw [pathOf_len, hl]
  have HB := Lib.hid hB
  obtain ⟨r, hrr⟩ : ∃ r, Hid (climbed n I d (fun j => (pathOf zs I).getD j 0) = r) := ⟨_, rfl⟩
  rw [hrr.out] at hcl
  clear hr hbx hG hGd wd hB
  unfold pathLaid at c0 c1 hcl
  go_enter Try.func10, Try.ntmps10
  go_wp2_with fail
  go_region_held3 (fun w' => w'.cell? ⟨w.heap.size, 0, none⟩ = some (.slice (some ⟨b, off, none⟩) n c) ∧ w'.cell? ⟨b, off + I, none⟩ = some (.int .i64 d))
    (first | exact sx | exact ⟨c0, c1⟩ | assumption | go_keep)
    (first | (go_at_call 30; refine hcl.mono ?_; rintro e w9 ⟨rfl, D9, ⟨v9, hG9⟩, hp9, hD9⟩; have sx := hG9.held.at hI hd))
  all_goals
    obtain ⟨k0, _, _⟩ := hG9.cells
    go_wp2
    go_ret
    refine ⟨v9, rfl, ?_, ?_⟩
    · rw [← hpl]
      have := ownI_base hG9.own (B' := w.heap.size) (by omega)
      rw [hdl] at this
      exact this
    · exact HB.out.drew.trans (hp9.below (B := w.heap.size) HB.out.drew.size (fun i hi => by rcases hi with hi | hi <;> first | omega | (simp only [Value.ownBlock, Option.some.injEq] at hi; omega)))
theorem path_impl (lo hi n c : Nat) (i : Int) (w : World) (a : Option Addr) (zs : List Int) (hr : Row .i64 lo hi w a n zs) (hc : n ≤ c) (hm : c ≤ maxLen) (hn : n ≤ 1000000000000) (hh : hi ≤ w.heap.size) :
    Calls Try.prog 10 #[.slice a n c, .int .i64 i] w (Hands w (pth zs i)) := by
  have hl := hr.len
  by_cases h0 : i < 0 ∨ (n : Int) ≤ i
  · rw [pth_out (by omega)]
    exact path_out n c i w a h0
  · rw [pth_in (by omega) (by omega)]
    obtain ⟨b, off, rfl, _⟩ := hr.here (by omega)
    have := path_in lo hi n c b off i.toNat w zs hr (by omega) hc hm hn hh
    rw [show ((i.toNat : Nat) : Int) = i by omega] at this
    exact this
end Go.Proofs.Ytggfpjcfjcoaiaa.Tre
