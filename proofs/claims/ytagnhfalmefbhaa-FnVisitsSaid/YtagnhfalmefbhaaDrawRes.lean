/-
  The draws of resources by the cursor: a body, a resource.
  Conditions: the bytes lie below the cursor's block.
-/
import Derived.Test.YtagnhfalmefbhaaDraws
import Derived.Test.YtagnhfalmefbhaaDrawAny4
import Derived.Test.YtagnhfalmefbhaaRes
import Derived.Test.YtagnhfalmefbhaaSteps
namespace Go.Proofs.Ytagnhfalmefbhaa.Draw
open Go Go.RowKit Go.Proofs.Ytagnhfalmefbhaa.Mem Go.Proofs.Ytagnhfalmefbhaa.Adr Go.Proofs.Ytagnhfalmefbhaa.Res

theorem quint_only {T b p : Nat} {x0 x1 x2 x3 x4 : Value} {w w' : World} (h : Quint T b x0 x1 x2 x3 x4 w) (ho : Only p w w') (hne : b ≠ p) : Quint T b x0 x1 x2 x3 x4 w' := ho.heap h hne

/-- Numbers of a drawn body: their texts need no table, or they are 255 or out of range. -/
def Good (zs : List Int) : Prop := ∀ z ∈ zs, -1 ≤ z ∧ z ≤ 256 ∧ (z < 100 ∨ 255 ≤ z)
theorem Good.wf {zs : List Int} (h : Good zs) : ∀ z ∈ zs, (Lit.int .i64 z).wf = true := fun z hz => WalkArith.wf_i64 (by have := h z hz; omega)
theorem Good.nil : Good [] := fun _ h => by cases h
theorem Good.snoc {zs : List Int} {q : Int} (h : Good zs) (h0 : -1 ≤ q) (h1 : q ≤ 256) (h2 : q < 100 ∨ 255 ≤ q) : Good (zs ++ [q]) := by
  intro z hz
  rcases List.mem_append.1 hz with hz | hz
  · exact h z hz
  · simp at hz; subst hz; exact ⟨h0, h1, h2⟩


section
variable {T T2 B p R : Nat} {x0 x1 x2 x3 x4 : Value} {w w2 : World}
/-- Five stores into a block of the call's own. -/
theorem store5 (hq : Quint T R x0 x1 x2 x3 x4 w2) (hc : Cur T2 B p w2) (ho : Only p w w2) (hR : w.heap.size ≤ R) (hRp : R ≠ p) (hB : B ≤ R) (y0 y1 y2 y3 y4 : Value) :
    Quint T R y0 y1 y2 y3 y4 (((((w2.setCell ⟨R, 0, none⟩ y0).setCell ⟨R, 1, none⟩ y1).setCell ⟨R, 2, none⟩ y2).setCell ⟨R, 3, none⟩ y3).setCell ⟨R, 4, none⟩ y4) ∧
    Cur T2 B p (((((w2.setCell ⟨R, 0, none⟩ y0).setCell ⟨R, 1, none⟩ y1).setCell ⟨R, 2, none⟩ y2).setCell ⟨R, 3, none⟩ y3).setCell ⟨R, 4, none⟩ y4) ∧
    Only p w (((((w2.setCell ⟨R, 0, none⟩ y0).setCell ⟨R, 1, none⟩ y1).setCell ⟨R, 2, none⟩ y2).setCell ⟨R, 3, none⟩ y3).setCell ⟨R, 4, none⟩ y4) :=
  ⟨((((hq.set0 y0).set1 y1).set2 y2).set3 y3).set4 y4,
   ((((hc.only_new (a := ⟨R, 0, none⟩) hRp hB y0).only_new (a := ⟨R, 1, none⟩) hRp hB y1).only_new (a := ⟨R, 2, none⟩) hRp hB y2).only_new (a := ⟨R, 3, none⟩) hRp hB y3).only_new (a := ⟨R, 4, none⟩) hRp hB y4,
   ((((ho.setNew (a := ⟨R, 0, none⟩) hR y0).setNew (a := ⟨R, 1, none⟩) hR y1).setNew (a := ⟨R, 2, none⟩) hR y2).setNew (a := ⟨R, 3, none⟩) hR y3).setNew (a := ⟨R, 4, none⟩) hR y4⟩
end

/-- A drawn body. -/
def IsBody (T B p : Nat) (w : World) (e : Ending) (w' : World) : Prop :=
  ∃ (a : Option Addr) (n c : Nat) (zs : List Int), e = .returned (.slice a n c) ∧ OwnI .i64 3 w.heap.size w' (.slice a n c) n zs ∧ n ≤ 4 ∧ Good zs ∧ Cur T B p w' ∧ Only p w w'

set_option maxHeartbeats 1000000 in
set_option maxRecDepth 100000 in
theorem body5 (B p : Nat) (w : World) (hc : Cur 97 B p w) :
    Calls Try.prog 103 #[.pointer (some ⟨p, 0, none⟩)] w (IsBody 97 B p w) := by
  obtain ⟨i0, hi0, hz0, hz1, hz2⟩ := info_parts Nts.info
  have hs := OwnI.made .i64 3 (base := w.heap.size) w (Nat.le_refl _)
  have hc0 := hc.below ((Below.refl w.heap.size w).alloc (Nat.le_refl _) (.cells #[] 3))
  have ho0 := (Only.refl p w).alloc (.cells #[] 3)
  have hpl := hc.lt
  go_enter Try.func103, Try.ntmps103
  go_wp2_with fail
  go_at_call 65
  refine (below_any B p _ _ hc0 (by omega) (by omega)).mono ?_
  rintro e w1 ⟨⟨x, hx, rfl⟩, hc1, ho1⟩
  have hx5 : x < 5 := hx
  have hs1 := Only.own hs ho1 hpl
  have hO1 := ho0.trans ho1
  clear hs hc0 ho0 ho1 hx hc
  go_wp2_with fail
  go_loopw [3, 4] (fun v i wr => ∃ (j : Nat) (zs : List Int), j ≤ x ∧ i = .int .i64 ((x - j : Nat) : Int) ∧ OwnI .i64 3 w.heap.size wr v j zs ∧ Hid (Good zs) ∧ Cur 97 B p wr ∧ Only p w wr) (fun _ i _ => (intOf i).toNat)
  case atStart => exact ⟨0, [], Nat.zero_le _, rfl, hs1, Good.nil, hc1, hO1⟩
  case round =>
    obtain ⟨j, zs, hj, rfl, ho, hwf, hcr, hor⟩ := hrel
    clear hs1 hc1 hO1
    have hsz := hor.size
    by_cases hlt : j < x
    · have hd : decide (((x - j : Nat) : Int) > 0) = true := by simp; omega
      have hd' : decide (0 < ((x - j : Nat) : Int)) = true := by simp; omega
      go_wp2_with fail
      go_at_call 65
      refine (below_any B p _ _ hcr (by omega) (by omega)).mono ?_
      rintro e w2 ⟨⟨y, hy, rfl⟩, hc2, ho2⟩
      have hy9 : y < 9 := hy
      have hs2 := ho2.size
      have hw2 := (Only.own ho ho2 hpl).alloc (.cells #[.int .i64 (y : Int)] 3)
      clear hy
      go_wp2_with (at_builtin; refine wpList_append_one rfl _ _ 25 rfl w.heap.size 3 i0 _ 8 Try.underlying25 hi0 hz0 hz1 hz2 rfl _ j zs rfl hw2 w2.heap.size 1 (y : Int) rfl ?c2 ?c3 ?c4 ?c5 ?_; (case c2 => rw [World.cell?_alloc_at _ _ _ _ rfl]; rfl); (case c3 => unfold maxLen; omega); (case c4 => omega); (case c5 => simp; omega); intro v' w' ho3 hb')
      go_roundw
      case rel =>
        refine ⟨j + 1, _, by omega, by go_num, ho3, ?_, ?_, ?_⟩
        · exact hwf.out.snoc (by omega) (by omega) (by omega)
        · exact (hc2.below ((Below.refl _ _).alloc (Nat.le_refl _) _)).under hb' hpl
        · exact (((hor.trans ho2).alloc _).under hb' (Nat.le_refl _))
      case measure => simp [intOf]; omega
    · have HE := Lib.hid (show x - j = 0 by omega)
      have hd : decide (((x - j : Nat) : Int) > 0) = false := by simp; omega
      have hd' : decide (0 < ((x - j : Nat) : Int)) = false := by simp; omega
      go_wp2
      go_ret
      obtain ⟨a, c, rfl⟩ := ownI_shape ho
      exact ⟨a, j, c, zs, rfl, ho, by omega, hwf.out, hcr, hor⟩

/-- A drawn resource, by value; its body has at most m numbers. -/
def IsRes (T B p m : Nat) (w : World) (e : Ending) (w' : World) : Prop :=
  ∃ (k h q r : Int) (a : Option Addr) (n c : Nat) (zs : List Int), I64 k ∧ I64 h ∧ I64 q ∧ I64 r ∧ e = .returned (Value.agg #[Value.int IntKind.i64 (k), Value.slice (a) (n) (c), Value.int IntKind.i64 (h), Value.int IntKind.i64 (q), Value.int IntKind.i64 (r)]) ∧ OwnI .i64 3 w.heap.size w' (.slice a n c) n zs ∧ n ≤ m ∧ Good zs ∧ Cur T B p w' ∧ Only p w w'

set_option maxHeartbeats 1000000 in
set_option maxRecDepth 100000 in
theorem draw5 (B p : Nat) (w : World) (hc : Cur 97 B p w) :
    Calls Try.prog 97 #[.pointer (some ⟨p, 0, none⟩)] w (IsRes 97 B p 4 w) := by
  have hp := hc.lt
  have hBp := hc.1
  have qR := Quint.new 39 (.int .i64 0) (.slice none 0 0) (.int .i64 0) (.int .i64 0) (.int .i64 0) w
  have hc0 : Cur 97 B p (w.alloc (.cells #[.int .i64 0, .slice none 0 0, .int .i64 0, .int .i64 0, .int .i64 0] 39)) := hc.below ((Below.refl _ _).alloc (Nat.le_refl _) _)
  have ho0 := (Only.refl p w).alloc (.cells #[.int .i64 0, .slice none 0 0, .int .i64 0, .int .i64 0, .int .i64 0] 39)
  go_enter Try.func97, Try.ntmps97
  go_wp2_with fail
  go_at_call 65
  refine (below_any B p _ _ hc0 (by omega) (by omega)).mono ?_
  rintro e w1 ⟨⟨x, hx, rfl⟩, hc1, ho1⟩
  have hO1 := ho0.trans ho1
  have qR1 := quint_only qR ho1 (by omega)
  have hs1 := ho1.size
  rw [size_alloc] at hs1
  clear hc0 ho0 ho1 qR hc hx
  by_cases x0 : x = 0
  · subst x0
    go_wp2_with fail
    go_at_call 92
    refine (draw4 B p _ hc1).mono ?_
    rintro e w2 ⟨⟨h, q, r, hh, hq, hr, rfl⟩, hc2, ho2⟩
    have hO2 := hO1.trans ho2
    have qR2 := quint_only qR1 ho2 (by omega)
    obtain ⟨f0, f1, f2, f3, f4⟩ := qR2.frozen
    obtain ⟨a0, a1, a2, a3, a4⟩ := qR2.cells
    clear hO1 qR1 ho2 hc1
    go_wp2
    obtain ⟨qF, hcF, hOF⟩ := store5 qR2 hc2 hO2 (Nat.le_refl _) (by omega) (by omega) (.int .i64 3) (.slice none 0 0) (.int .i64 h) (.int .i64 q) (.int .i64 r)
    obtain ⟨g0, g1, g2, g3, g4⟩ := qF.cells
    refine bodyPost_ret (v := (Value.agg #[Value.int IntKind.i64 (3), Value.slice (none) (0) (0), Value.int IntKind.i64 (h), Value.int IntKind.i64 (q), Value.int IntKind.i64 (r)])) (by simp [results, Try.results97, go_sem, g0, g1, g2, g3, g4]) rfl ?_
    exact ⟨3, h, q, r, none, 0, 0, [], ⟨by omega, by omega⟩, hh, hq, hr, rfl, OwnI.nil _ _ _ _, by omega, Good.nil, hcF, hOF⟩
  have e0 : ((x : Int) == 0) = false := by simp; omega
  by_cases x1 : x = 1
  · subst x1
    obtain ⟨f0, f1, f2, f3, f4⟩ := qR1.frozen
    obtain ⟨a0, a1, a2, a3, a4⟩ := qR1.cells
    go_wp2
    obtain ⟨qF, hcF, hOF⟩ := store5 qR1 hc1 hO1 (Nat.le_refl _) (by omega) (by omega) (.int .i64 4) (.slice none 0 0) (.int .i64 0) (.int .i64 0) (.int .i64 0)
    obtain ⟨g0, g1, g2, g3, g4⟩ := qF.cells
    refine bodyPost_ret (v := (Value.agg #[Value.int IntKind.i64 (4), Value.slice (none) (0) (0), Value.int IntKind.i64 (0), Value.int IntKind.i64 (0), Value.int IntKind.i64 (0)])) (by simp [results, Try.results97, go_sem, g0, g1, g2, g3, g4]) rfl ?_
    exact ⟨4, 0, 0, 0, none, 0, 0, [], ⟨by omega, by omega⟩, ⟨by omega, by omega⟩, ⟨by omega, by omega⟩, ⟨by omega, by omega⟩, rfl, OwnI.nil _ _ _ _, by omega, Good.nil, hcF, hOF⟩
  have e1 : ((x : Int) == 1) = false := by simp; omega
  go_wp2_with fail
  go_at_call 65
  refine (below_any B p _ _ hc1 (by omega) (by omega)).mono ?_
  rintro e w2 ⟨⟨y, hy, rfl⟩, hc2, ho2⟩
  have hy2 : y < 2 := hy
  have hO2 := hO1.trans ho2
  have qR2 := quint_only qR1 ho2 (by omega)
  have hs2 := ho2.size
  clear hc1 hO1 ho2 qR1 hy
  go_wp2_with fail
  go_at_call 103
  refine (body5 B p _ hc2).mono ?_
  rintro e w3 ⟨a, n, c, zs, rfl, hv, hn, hg, hc3, ho3⟩
  have hO3 := hO2.trans ho3
  have qR3 := quint_only qR2 ho3 (by omega)
  obtain ⟨f0, f1, f2, f3, f4⟩ := qR3.frozen
  obtain ⟨a0, a1, a2, a3, a4⟩ := qR3.cells
  clear hc2 hO2 ho3 qR2
  go_wp2
  obtain ⟨qF, hcF, hOF⟩ := store5 qR3 hc3 hO3 (Nat.le_refl _) (by omega) (by omega) (.int .i64 (1 + y)) (.slice a n c) (.int .i64 0) (.int .i64 0) (.int .i64 0)
  have hvF := own5 (R := w.heap.size) hv (by omega) (.int .i64 (1 + y)) (.slice a n c) (.int .i64 0) (.int .i64 0) (.int .i64 0)
  obtain ⟨g0, g1, g2, g3, g4⟩ := qF.cells
  refine bodyPost_ret (v := (Value.agg #[Value.int IntKind.i64 (1 + y), Value.slice (a) (n) (c), Value.int IntKind.i64 (0), Value.int IntKind.i64 (0), Value.int IntKind.i64 (0)])) (by simp [results, Try.results97, go_sem, g0, g1, g2, g3, g4]) rfl ?_
  exact ⟨1 + y, 0, 0, 0, a, n, c, zs, ⟨by omega, by omega⟩, ⟨by omega, by omega⟩, ⟨by omega, by omega⟩, ⟨by omega, by omega⟩, rfl, ownI_more hvF (by omega), hn, hg, hcF, hOF⟩

theorem own_ne_quint {k : IntKind} {e T b base n : Nat} {w : World} {v : Value} {zs : List Int} {x0 x1 x2 x3 x4 : Value} (h : OwnI k e base w v n zs) (q : Quint T b x0 x1 x2 x3 x4 w) (hne : e ≠ T) : some b ≠ v.ownBlock := by
  rcases h.2 with ⟨rfl, _⟩ | ⟨g, cap, cur, rfl, _, hg, _⟩
  · simp [Value.ownBlock]
  · intro he
    simp only [Value.ownBlock, Option.some.injEq] at he
    subst he
    unfold Quint at q
    rw [q] at hg
    injection hg with hg
    injection hg with _ h2 _
    exact hne h2.symm
theorem ownI_other {k : IntKind} {e : TypeId} {base n : Nat} {w : World} {v : Value} {zs : List Int} (h : OwnI k e base w v n zs) {a : Addr} (ha : some a.block ≠ v.ownBlock) (u : Value) : OwnI k e base (w.setCell a u) v n zs :=
  World.ownsRow.kept h (row := some a.block) ⟨rfl, rfl, rfl, by rw [size_set]; exact Nat.le_refl _, fun i _ hne => heap_setCell_other w a i u (fun e => hne (by rw [e]))⟩ (.inr fun e => ha e.symm)

theorem step_append_keep {P : Program} {ops : Array Oper} {o : Oper} {a : Act} {w : World} {K : Act → World → Prop} {Q : Exit → Act → World → Prop} {E : Prop} {k : IntKind} (hgd : o.guard = none) (s x : Operand) (t : TypeId)
    (ho : o.op = .call { callee := .builtin .append, args := #[s, x], argTypes := #[t, t] })
    (base e : Nat) (i : TypeInfo) (z : Value) (bytes : Nat) (ht : P.underlying t = some (.slice e)) (hi : P.info? e = some i) (hz : i.zero = some z)
    (hsize : i.size = 1) (hby : i.bytes = bytes) (hzs : z.cells.size = 1)
    (v : Value) (n : Nat) (xs : List Int) (hs : a.eval s = v) (hown : OwnI k e base w v n xs)
    (g c : Nat) (q : Int) (hx : a.eval x = .slice (some ⟨g, 0, none⟩) 1 c) (hr : w.cell? ⟨g, 0, none⟩ = some (.int k q))
    (h63 : n + 1 ≤ maxLen) (hbytes : (n + 1) * bytes ≤ 140737488355328) (hbase : base ≤ w.heap.size)
    (h : ∀ a' c' w', OwnI k e base w' (.slice a' (n + 1) c') (n + 1) (xs ++ [q]) → Below base w w' → (∀ b, b < w.heap.size → some b ≠ v.ownBlock → w'.heap[b]? = w.heap[b]?) → K (a.put o.dst (.slice a' (n + 1) c')) w') :
    if Region.wanted o (yielded ops a.tmps) = true then Oper.wp P o a w K Q else E := by
  have hw : Region.wanted o (yielded ops a.tmps) = true := by simp [Region.wanted, hgd]
  rw [if_pos hw]
  refine wp_append_own w s x t ho base e i z 1 bytes ht hi hz hsize hby hzs (by omega) v n _ hs hown ⟨g, 0, none⟩ 1 c ([q].map (Value.int k)) hx rfl ?_ (ints_oneCell k [q]) h63 hbytes hbase ?_
  · intro j u hu
    cases j with
    | zero => simp at hu; subst hu; exact hr
    | succ j => simp at hu
  · intro v' w' h2 h3 _
    have h2' : OwnI k e base w' v' (n + 1) (xs ++ [q]) := by unfold OwnI; rw [List.map_append]; exact h2
    obtain ⟨a', c', rfl⟩ : ∃ a c, v' = .slice a (n + 1) c := by
      rcases h2'.2 with ⟨_, h0⟩ | ⟨g, cap, cur, rfl, _⟩
      · omega
      · exact ⟨_, _, rfl⟩
    exact h a' c' w' h2' (OwnI.grown hown h3 hbase) (fun b hb hne => h3.block b hb hne)

set_option maxHeartbeats 2000000 in
set_option maxRecDepth 100000 in
theorem any5 (B p : Nat) (w : World) (hc : Cur 97 B p w) :
    Calls Try.prog 79 #[.pointer (some ⟨p, 0, none⟩)] w (IsRes 97 B p 7 w) := by
  obtain ⟨i0, hi0, hz0, hz1, hz2⟩ := info_parts Nts.info
  have hp := hc.lt
  have hBp := hc.1
  have qR := Quint.new 39 (.int .i64 0) (.slice none 0 0) (.int .i64 0) (.int .i64 0) (.int .i64 0) w
  have hc0 : Cur 97 B p (w.alloc (.cells #[.int .i64 0, .slice none 0 0, .int .i64 0, .int .i64 0, .int .i64 0] 39)) := hc.below ((Below.refl _ _).alloc (Nat.le_refl _) _)
  have ho0 := (Only.refl p w).alloc (.cells #[.int .i64 0, .slice none 0 0, .int .i64 0, .int .i64 0, .int .i64 0] 39)
  go_enter Try.func79, Try.ntmps79
  go_wp2_with fail
  go_at_call 97
  refine (draw5 B p _ hc0).mono ?_
  rintro e w1 ⟨k, h, q, r, a, n, c, zs, hk, hh, hq, hr, rfl, hv, hn, hg, hc1, ho1⟩
  rw [size_alloc] at hv
  have hs1 := ho1.size
  rw [size_alloc] at hs1
  have hl1 := hc1.lt
  have hO1 := (ho0.trans ho1).alloc (.cells #[.int .i64 k, .slice a n c, .int .i64 h, .int .i64 q, .int .i64 r] 39)
  have qR1 := (quint_only qR ho1 (by omega)).alloc (.cells #[.int .i64 k, .slice a n c, .int .i64 h, .int .i64 q, .int .i64 r] 39)
  have qV1 := Quint.new 39 (.int .i64 k) (.slice a n c) (.int .i64 h) (.int .i64 q) (.int .i64 r) w1
  have hv1 := hv.alloc (.cells #[.int .i64 k, .slice a n c, .int .i64 h, .int .i64 q, .int .i64 r] 39)
  have hc1' : Cur 97 B p (w1.alloc (.cells #[.int .i64 k, .slice a n c, .int .i64 h, .int .i64 q, .int .i64 r] 39)) := hc1.below ((Below.refl _ _).alloc (Nat.le_refl _) _)
  clear hc0 ho0 ho1 hc1 hc qR hv
  go_wp2_with fail
  go_at_call 65
  refine (below_any B p _ _ hc1' (by omega) (by omega)).mono ?_
  rintro e w2 ⟨⟨x, hx, rfl⟩, hc2, ho2⟩
  have qR2 := quint_only qR1 ho2 (by omega)
  have qV2 := quint_only qV1 ho2 (by omega)
  have hv2 := Only.own hv1 ho2 (by omega)
  have hO2 := hO1.trans ho2
  have hs2 := ho2.size
  rw [size_alloc] at hs2
  clear qR1 qV1 hO1 hc1' ho2 hx hv1
  by_cases x0 : x = 0
  · subst x0
    go_wp2_with (go_at_call 34; refine (int_new B p [0, 5, 3, 4] _ _ _ rfl _ _ rfl hc2 (by decide) (by decide)).mono ?_; rintro e w3 ⟨⟨y, hy, rfl⟩, hc3, ho3⟩; have qV3 := quint_only qV2 ho3 (by omega); have qR3 := quint_only qR2 ho3 (by omega); have hv3 := Only.own hv2 ho3 (by omega); have hO3 := hO2.trans ho3; obtain ⟨a0, a1, a2, a3, a4⟩ := qR3.cells; obtain ⟨f0, f1, f2, f3, f4⟩ := qR3.frozen; obtain ⟨d0, d1, d2, d3, d4⟩ := qV3.cells; obtain ⟨e0, e1, e2, e3, e4⟩ := qV3.frozen)
    have hy' : I64 y := by simp at hy; unfold I64; omega
    have hnV := own_ne_quint hv3 qV3 (by decide)
    obtain ⟨qF, hcF, hOF⟩ := store5 (R := w.heap.size) (qR3.other (a := ⟨w1.heap.size, 0, none⟩) (.int .i64 y) (by simp; omega)) (hc3.only_new (a := ⟨w1.heap.size, 0, none⟩) (by simp; omega) (by simp; omega) (.int .i64 y)) (hO3.setNew (a := ⟨w1.heap.size, 0, none⟩) (by simp; omega) (.int .i64 y)) (Nat.le_refl _) (by omega) (by omega) (.int .i64 y) (.slice a n c) (.int .i64 h) (.int .i64 q) (.int .i64 r)
    have hvF := own5 (R := w.heap.size) (ownI_other hv3 (a := ⟨w1.heap.size, 0, none⟩) hnV (.int .i64 y)) (by omega) (.int .i64 y) (.slice a n c) (.int .i64 h) (.int .i64 q) (.int .i64 r)
    obtain ⟨g0, g1, g2, g3, g4⟩ := qF.cells
    refine bodyPost_ret (v := (Value.agg #[Value.int IntKind.i64 (y), Value.slice (a) (n) (c), Value.int IntKind.i64 (h), Value.int IntKind.i64 (q), Value.int IntKind.i64 (r)])) (by simp [results, Try.results79, go_sem, g0, g1, g2, g3, g4]) rfl ?_
    exact ⟨y, h, q, r, a, n, c, zs, hy', hh, hq, hr, rfl, ownI_more hvF (by omega), by omega, hg, hcF, hOF⟩
  have e0 : ((x : Int) == 0) = false := by simp; omega
  by_cases x1 : x = 1
  · subst x1
    have hcl : Cur 97 B p ((w2.alloc (.cells #[.int .i64 (-1), .int .i64 255, .int .i64 256] 3)).drew) := hc2.below (((Below.refl _ _).alloc (Nat.le_refl _) _).drew)
    have qVl : Quint 39 w1.heap.size (.int .i64 k) (.slice a n c) (.int .i64 h) (.int .i64 q) (.int .i64 r) (w2.alloc (.cells #[.int .i64 (-1), .int .i64 255, .int .i64 256] 3)) := qV2.alloc _
    have qVd : Quint 39 w1.heap.size (.int .i64 k) (.slice a n c) (.int .i64 h) (.int .i64 q) (.int .i64 r) ((w2.alloc (.cells #[.int .i64 (-1), .int .i64 255, .int .i64 256] 3)).drew) := qVl
    have qRd : Quint 39 w.heap.size (.int .i64 0) (.slice none 0 0) (.int .i64 0) (.int .i64 0) (.int .i64 0) ((w2.alloc (.cells #[.int .i64 (-1), .int .i64 255, .int .i64 256] 3)).drew) := qR2.alloc _
    have hvd : OwnI .i64 3 (w.heap.size + 1) ((w2.alloc (.cells #[.int .i64 (-1), .int .i64 255, .int .i64 256] 3)).drew) (.slice a n c) n zs := hv2.alloc _
    have hOd : Only p w ((w2.alloc (.cells #[.int .i64 (-1), .int .i64 255, .int .i64 256] 3)).drew) := (hO2.alloc _).drewN 1
    have hsd : ((w2.alloc (.cells #[.int .i64 (-1), .int .i64 255, .int .i64 256] 3)).drew).heap.size = w2.heap.size + 1 := by show (w2.alloc (.cells #[.int .i64 (-1), .int .i64 255, .int .i64 256] 3)).heap.size = _; rw [size_alloc]
    have hI := int_any B p w2.heap.size 3 [-1, 255, 256] ((w2.alloc (.cells #[.int .i64 (-1), .int .i64 255, .int .i64 256] 3)).drew) hcl (by omega) (fun j hj => by
      show (w2.alloc (.cells #[.int .i64 (-1), .int .i64 255, .int .i64 256] 3)).cell? ⟨w2.heap.size, j, none⟩ = _
      rw [World.cell?_alloc_mark w2 _ _ (0, 0) j]
      have hj3 : j = 0 ∨ j = 1 ∨ j = 2 := by simp at hj; omega
      rcases hj3 with rfl | rfl | rfl <;> rfl) (by decide) (by decide)
    obtain ⟨d0, d1, d2, d3, d4⟩ := qV2.cells
    obtain ⟨b0, b1, b2, b3, b4⟩ := qV2.frozen
    obtain ⟨l0, l1, l2, l3, l4⟩ := qVl.cells
    obtain ⟨m0, m1, m2, m3, m4⟩ := qVl.frozen
    go_wp2_with fail
    go_region_law (first
      | (go_simp; go_at_call 34; refine hI.mono ?_; rintro e w3 ⟨⟨y, hy, rfl⟩, hc3, ho3⟩; have qV3 := quint_only qVd ho3 (by omega); have qR3 := quint_only qRd ho3 (by omega); have hv3 := Only.own hvd ho3 (by omega); have hO3 := hOd.trans ho3; have hs3 := ho3.size; have hnV3 := own_ne_quint hv3 qV3 (by decide); obtain ⟨d0, d1, d2, d3, d4⟩ := qV3.cells; obtain ⟨b0, b1, b2, b3, b4⟩ := qV3.frozen; have hv4 := hv3.alloc (.cells #[.int .i64 y] 3); have qV4 := qV3.alloc (.cells #[.int .i64 y] 3); obtain ⟨n0, n1, n2, n3, n4⟩ := qV4.cells; obtain ⟨t0, t1, t2, t3, t4⟩ := qV4.frozen; have qR4 := qR3.alloc (.cells #[.int .i64 y] 3); have hO4 := hO3.alloc (.cells #[.int .i64 y] 3); have hc4 := hc3.below ((Below.refl _ _).alloc (Nat.le_refl _) (.cells #[.int .i64 y] 3)))
      | (refine step_append_keep rfl _ _ 25 rfl (w.heap.size + 1) 3 i0 _ 8 Try.underlying25 hi0 hz0 hz1 hz2 rfl _ n zs rfl hv4 w3.heap.size 1 y rfl ?c2 ?c3 ?c4 ?c5 ?_; (case c2 => rw [World.cell?_alloc_at _ _ _ _ rfl]; rfl); (case c3 => unfold maxLen; omega); (case c4 => omega); (case c5 => rw [size_alloc]; omega); intro a' c' w5 hv5 hb5 hk5; have qV5 := (hk5 w1.heap.size qV4.lt hnV3).trans qV4; have qR5 := qR4.under hb5 (by omega); have hO5 := hO4.under hb5 (by omega); have hc5 := hc4.under hb5 (by omega); obtain ⟨d0, d1, d2, d3, d4⟩ := Quint.cells qV5; obtain ⟨b0, b1, b2, b3, b4⟩ := Quint.frozen qV5))
    all_goals
      have hnV := own_ne_quint hv5 qV5 (by decide)
      have hyg : -1 ≤ y ∧ y ≤ 256 ∧ (y < 100 ∨ 255 ≤ y) := by simp at hy; omega
      obtain ⟨r0, r1, r2, r3, r4⟩ := qR5.cells
      obtain ⟨u0, u1, u2, u3, u4⟩ := qR5.frozen
      clear qR2 qV2 hcl qVl qVd qRd hvd hOd hsd hI l0 l1 l2 l3 l4 m0 m1 m2 m3 m4 hv2 hO2 hc2 n0 n1 n2 n3 n4 t0 t1 t2 t3 t4
      go_wp2
      obtain ⟨qF, hcF, hOF⟩ := store5 (R := w.heap.size) (qR5.other (a := ⟨w1.heap.size, 1, none⟩) (.slice a' (n + 1) c') (by simp; omega)) (hc5.only_new (a := ⟨w1.heap.size, 1, none⟩) (by simp; omega) (by simp; omega) (.slice a' (n + 1) c')) (hO5.setNew (a := ⟨w1.heap.size, 1, none⟩) (by simp; omega) (.slice a' (n + 1) c')) (Nat.le_refl _) (by omega) (by omega) (.int .i64 k) (.slice a' (n + 1) c') (.int .i64 h) (.int .i64 q) (.int .i64 r)
      have hvF := own5 (R := w.heap.size) (ownI_other hv5 (a := ⟨w1.heap.size, 1, none⟩) hnV (.slice a' (n + 1) c')) (by omega) (.int .i64 k) (.slice a' (n + 1) c') (.int .i64 h) (.int .i64 q) (.int .i64 r)
      obtain ⟨g0, g1, g2, g3, g4⟩ := qF.cells
      refine bodyPost_ret (v := (.agg #[.int .i64 k, .slice a' (n + 1) c', .int .i64 h, .int .i64 q, .int .i64 r])) (by simp [results, Try.results79, go_sem, g0, g1, g2, g3, g4]) rfl ?_
      exact ⟨_, _, _, _, _, _, _, _, hk, hh, hq, hr, rfl, ownI_more hvF (by omega), by omega, (hg.snoc hyg.1 hyg.2.1 hyg.2.2), hcF, hOF⟩
  have e1 : ((x : Int) == 1) = false := by simp; omega
  by_cases x2 : x = 2
  · subst x2
    have hL := OwnI.lit .i64 3 (base := w.heap.size + 1) w2 [1, 2, 3, 4, 5, 6, 7] (by omega) (by unfold maxLen; simp)
    have qV3 := qV2.alloc (.cells #[.int .i64 1, .int .i64 2, .int .i64 3, .int .i64 4, .int .i64 5, .int .i64 6, .int .i64 7] 3)
    have qR3 := qR2.alloc (.cells #[.int .i64 1, .int .i64 2, .int .i64 3, .int .i64 4, .int .i64 5, .int .i64 6, .int .i64 7] 3)
    have hO3 := hO2.alloc (.cells #[.int .i64 1, .int .i64 2, .int .i64 3, .int .i64 4, .int .i64 5, .int .i64 6, .int .i64 7] 3)
    have hc3 : Cur 97 B p (w2.alloc (.cells #[.int .i64 1, .int .i64 2, .int .i64 3, .int .i64 4, .int .i64 5, .int .i64 6, .int .i64 7] 3)) := hc2.below ((Below.refl _ _).alloc (Nat.le_refl _) _)
    have hnV : some w1.heap.size ≠ (Value.slice (some ⟨w2.heap.size, 0, none⟩) 7 7).ownBlock := by simp [Value.ownBlock]; omega
    obtain ⟨a0, a1, a2, a3, a4⟩ := qR3.cells
    obtain ⟨f0, f1, f2, f3, f4⟩ := qR3.frozen
    obtain ⟨d0, d1, d2, d3, d4⟩ := qV3.cells
    obtain ⟨b0, b1, b2, b3, b4⟩ := qV3.frozen
    go_wp2
    obtain ⟨qF, hcF, hOF⟩ := store5 (R := w.heap.size) (qR3.other (a := ⟨w1.heap.size, 1, none⟩) (.slice (some ⟨w2.heap.size, 0, none⟩) 7 7) (by simp; omega)) (hc3.only_new (a := ⟨w1.heap.size, 1, none⟩) (by simp; omega) (by simp; omega) (.slice (some ⟨w2.heap.size, 0, none⟩) 7 7)) (hO3.setNew (a := ⟨w1.heap.size, 1, none⟩) (by simp; omega) (.slice (some ⟨w2.heap.size, 0, none⟩) 7 7)) (Nat.le_refl _) (by omega) (by omega) (.int .i64 k) (.slice (some ⟨w2.heap.size, 0, none⟩) 7 7) (.int .i64 h) (.int .i64 q) (.int .i64 r)
    have hvF := own5 (R := w.heap.size) (ownI_other hL (a := ⟨w1.heap.size, 1, none⟩) hnV (.slice (some ⟨w2.heap.size, 0, none⟩) 7 7)) (by omega) (.int .i64 k) (.slice (some ⟨w2.heap.size, 0, none⟩) 7 7) (.int .i64 h) (.int .i64 q) (.int .i64 r)
    obtain ⟨g0, g1, g2, g3, g4⟩ := qF.cells
    refine bodyPost_ret (v := (.agg #[.int .i64 k, .slice (some ⟨w2.heap.size, 0, none⟩) 7 7, .int .i64 h, .int .i64 q, .int .i64 r])) (by simp [results, Try.results79, go_sem, g0, g1, g2, g3, g4]) rfl ?_
    exact ⟨_, _, _, _, _, _, _, _, hk, hh, hq, hr, rfl, ownI_more hvF (by omega), by omega, (by intro z hz; simp at hz; omega), hcF, hOF⟩
  have e2 : ((x : Int) == 2) = false := by simp; omega
  by_cases x3 : x = 3
  · subst x3
    go_wp2_with fail
    go_at_call 90
    refine (any4 B p _ hc2).mono ?_
    rintro e w3 ⟨⟨h', q', r', hh', hq', hr', rfl⟩, hc3, ho3⟩
    have qV3 := quint_only qV2 ho3 (by omega)
    have qR3 := quint_only qR2 ho3 (by omega)
    have hv3 := Only.own hv2 ho3 (by omega)
    have hO3 := hO2.trans ho3
    have hnV := own_ne_quint hv3 qV3 (by decide)
    obtain ⟨a0, a1, a2, a3, a4⟩ := qR3.cells
    obtain ⟨f0, f1, f2, f3, f4⟩ := qR3.frozen
    obtain ⟨d0, d1, d2, d3, d4⟩ := qV3.cells
    obtain ⟨b0, b1, b2, b3, b4⟩ := qV3.frozen
    go_wp2
    obtain ⟨qF, hcF, hOF⟩ := store5 (R := w.heap.size) (((qR3.other (a := ⟨w1.heap.size, 2, none⟩) (.int .i64 h') (by simp; omega)).other (a := ⟨w1.heap.size, 3, none⟩) (.int .i64 q') (by simp; omega)).other (a := ⟨w1.heap.size, 4, none⟩) (.int .i64 r') (by simp; omega)) (((hc3.only_new (a := ⟨w1.heap.size, 2, none⟩) (by simp; omega) (by simp; omega) (.int .i64 h')).only_new (a := ⟨w1.heap.size, 3, none⟩) (by simp; omega) (by simp; omega) (.int .i64 q')).only_new (a := ⟨w1.heap.size, 4, none⟩) (by simp; omega) (by simp; omega) (.int .i64 r')) (((hO3.setNew (a := ⟨w1.heap.size, 2, none⟩) (by simp; omega) (.int .i64 h')).setNew (a := ⟨w1.heap.size, 3, none⟩) (by simp; omega) (.int .i64 q')).setNew (a := ⟨w1.heap.size, 4, none⟩) (by simp; omega) (.int .i64 r')) (Nat.le_refl _) (by omega) (by omega) (.int .i64 k) (.slice a n c) (.int .i64 h') (.int .i64 q') (.int .i64 r')
    have hvF := own5 (R := w.heap.size) (ownI_other (ownI_other (ownI_other hv3 (a := ⟨w1.heap.size, 2, none⟩) hnV (.int .i64 h')) (a := ⟨w1.heap.size, 3, none⟩) hnV (.int .i64 q')) (a := ⟨w1.heap.size, 4, none⟩) hnV (.int .i64 r')) (by omega) (.int .i64 k) (.slice a n c) (.int .i64 h') (.int .i64 q') (.int .i64 r')
    obtain ⟨g0, g1, g2, g3, g4⟩ := qF.cells
    refine bodyPost_ret (v := (Value.agg #[Value.int IntKind.i64 (k), Value.slice (a) (n) (c), Value.int IntKind.i64 (h'), Value.int IntKind.i64 (q'), Value.int IntKind.i64 (r')])) (by simp [results, Try.results79, go_sem, g0, g1, g2, g3, g4]) rfl ?_
    exact ⟨_, _, _, _, _, _, _, zs, hk, hh', hq', hr', rfl, ownI_more hvF (by omega), by omega, hg, hcF, hOF⟩
  have e3 : ((x : Int) == 3) = false := by simp; omega
  obtain ⟨a0, a1, a2, a3, a4⟩ := qR2.cells
  obtain ⟨f0, f1, f2, f3, f4⟩ := qR2.frozen
  obtain ⟨d0, d1, d2, d3, d4⟩ := qV2.cells
  go_wp2
  obtain ⟨qF, hcF, hOF⟩ := store5 (R := w.heap.size) qR2 hc2 hO2 (Nat.le_refl _) (by omega) (by omega) (.int .i64 k) (.slice a n c) (.int .i64 h) (.int .i64 q) (.int .i64 r)
  have hvF := own5 (R := w.heap.size) hv2 (by omega) (.int .i64 k) (.slice a n c) (.int .i64 h) (.int .i64 q) (.int .i64 r)
  obtain ⟨g0, g1, g2, g3, g4⟩ := qF.cells
  refine bodyPost_ret (v := (Value.agg #[Value.int IntKind.i64 (k), Value.slice (a) (n) (c), Value.int IntKind.i64 (h), Value.int IntKind.i64 (q), Value.int IntKind.i64 (r)])) (by simp [results, Try.results79, go_sem, g0, g1, g2, g3, g4]) rfl ?_
  exact ⟨_, _, _, _, _, _, _, zs, hk, hh, hq, hr, rfl, ownI_more hvF (by omega), by omega, hg, hcF, hOF⟩
end Go.Proofs.Ytagnhfalmefbhaa.Draw
