/-
  An append of one part, and of many, onto a list of parts of the call's own.
  Conditions: the new bodies lie behind what was there.
-/
import Derived.Test.YtedjclnojocjkaaGreatDoorProg
import Derived.Test.YtedjclnojocjkaaGreatDoorLays
import Derived.WalkKit
import Derived.OwnWalk
namespace Go.Proofs.YtedjclnojocjkaaGreatDoor.Parts
open Go Go.RowKit Go.Proofs.YtedjclnojocjkaaGreatDoor.Mem

theorem info7' : (Tryz.prog.info? 62).map (fun i => (i.zero, i.size, i.bytes)) = some (some (.agg #[.int .i64 0, .int .i64 0, .slice none 0 0, .int .i64 0, .int .i64 0, .int .i64 0, .int .i64 0]), 7, 72) := by kernel_rfl

/-- What is appended: a row of parts in block b2, whose bodies are in blocks from M on, each in one of its own. -/
structure News (M : Nat) (w : World) (b2 off m : Nat) (l2 : List Prt) (G2 : List Body) : Prop where
  len : l2.length = m
  lenG : G2.length = l2.length
  wf : ∀ P ∈ l2, P.Wf
  cells : ∀ i, i < m → Cells7 w b2 (off + i * 7) (pt l2 i) (G2.getD i noBody).1 (G2.getD i noBody).2
  body : ∀ i, i < m → Own .i64 M w.heap.size w (G2.getD i noBody).1 (pt l2 i).zs.length (pt l2 i).zs ∧ (pt l2 i).zs.length ≤ (G2.getD i noBody).2 ∧ (G2.getD i noBody).2 ≤ maxLen
  sep : ∀ i j, i < m → j < m → i ≠ j → ∀ x y, (G2.getD i noBody).1 = some x → (G2.getD j noBody).1 = some y → 0 < (pt l2 i).zs.length → 0 < (pt l2 j).zs.length → x.block ≠ y.block
theorem News.one {T : TypeId} {M b c : Nat} {w : World} {P : Prt} {A : Option Addr} (h : Sept T b (.int .i64 P.d) (.int .i64 P.k) (.slice A P.zs.length c) (.int .i64 P.h) (.int .i64 P.p) (.int .i64 P.q) (.int .i64 P.u) w)
    (ho : Own .i64 M w.heap.size w A P.zs.length P.zs) (hc : P.zs.length ≤ c) (hm : c ≤ maxLen) (hw : P.Wf) : News M w b 0 1 [P] [(A, c)] := by
  obtain ⟨h0, h1, h2, h3, h4, h5, h6⟩ := h.cells
  refine ⟨rfl, rfl, fun Q hQ => by simp at hQ; subst hQ; exact hw, fun i hi => ?_, fun i hi => ?_, fun i j hi hj hne => absurd (show i = j by omega) hne⟩
  · obtain rfl : i = 0 := by omega
    exact ⟨h0, h1, h2, h3, h4, h5, h6⟩
  · obtain rfl : i = 0 := by omega
    exact ⟨ho, hc, hm⟩

theorem run_append_parts {base M n m c b2 off : Nat} {w : World} {v : Value} {l l2 : List Prt} {G G2 : List Body} (ty : TypeId) (h : PBuf 62 base M w v n l G) (hN : News M w b2 off m l2 G2) (hbM : base ≤ M) (hM : M ≤ w.heap.size) (hn : n + m ≤ 1048576) :
    ∃ v' w', (Builtin.append_ #[24, 24] ty #[v, .slice (some ⟨b2, off, none⟩) m c]).run Tryz.prog w = .ok v' w' ∧ PBuf 62 base w'.heap.size w' v' (n + m) (l ++ l2) (G ++ G2) ∧ Below base w w' ∧ w.grownBy w' v.ownBlock := by
  obtain ⟨i0, hi0, hz0, hz1, hz2⟩ := info_parts info7'
  have hcells := flat_cells hN.lenG hN.len hN.cells
  obtain ⟨v', w', hr, h2, h3, _, h5⟩ := run_append_own_at (P := Tryz.prog) w base 24 ty 62 i0 _ 7 72 Tryz.underlying24 hi0 hz0 hz1 hz2 rfl (by omega) v n (flat l G) h.row ⟨b2, off, none⟩ m c (flat l2 G2) (by rw [flat_length _ _ hN.lenG, hN.len]) hcells (flat_one l2 G2) (by unfold maxLen; omega) (by omega) (by omega)
  rw [← flat_append l l2 G G2 h.lenG] at h2
  refine ⟨v', w', hr, h.join hbM h2 h3 h5 hM hN.len hN.lenG hN.wf hN.body hN.sep, (Below.refl _ _).grown h3 (by omega) (fun k hk => (h.row.lt k hk).1), h3⟩

theorem run_append_parts_at {base M n m c b2 off : Nat} {w : World} {v : Value} {l l2 : List Prt} {G G2 : List Body} (ty : TypeId) (h : PBuf 62 base M w v n l G) (hN : News M w b2 off m l2 G2) (hbM : base ≤ M) (hM : M ≤ w.heap.size) (hn : n + m ≤ 1048576) :
    ∃ v' w', (Builtin.append_ #[24, 24] ty #[v, .slice (some ⟨b2, off, none⟩) m c]).run Tryz.prog w = .ok v' w' ∧ PBuf 62 base w'.heap.size w' v' (n + m) (l ++ l2) (G ++ G2) ∧ Below base w w' ∧ w.grownBy w' v.ownBlock ∧ (v'.ownBlock = v.ownBlock ∨ v'.ownBlock = some w.heap.size) := by
  obtain ⟨i0, hi0, hz0, hz1, hz2⟩ := info_parts info7'
  have hcells := flat_cells hN.lenG hN.len hN.cells
  obtain ⟨v', w', hr, h2, h3, _, h5⟩ := run_append_own_at (P := Tryz.prog) w base 24 ty 62 i0 _ 7 72 Tryz.underlying24 hi0 hz0 hz1 hz2 rfl (by omega) v n (flat l G) h.row ⟨b2, off, none⟩ m c (flat l2 G2) (by rw [flat_length _ _ hN.lenG, hN.len]) hcells (flat_one l2 G2) (by unfold maxLen; omega) (by omega) (by omega)
  rw [← flat_append l l2 G G2 h.lenG] at h2
  exact ⟨v', w', hr, h.join hbM h2 h3 h5 hM hN.len hN.lenG hN.wf hN.body hN.sep, (Below.refl _ _).grown h3 (by omega) (fun k hk => (h.row.lt k hk).1), h3, h5⟩

theorem wpList_append_parts_at {ops : Array Oper} {rest : List Oper} {o : Oper} {a : Act} {Q : Exit → Act → World → Prop} {w : World} (hgd : o.guard = none) (s x : Operand)
    (ho : o.op = .call { callee := .builtin .append, args := #[s, x], argTypes := #[24, 24] })
    {base M n m c b2 off : Nat} {v : Value} {l l2 : List Prt} {G G2 : List Body} (h : PBuf 62 base M w v n l G) (hN : News M w b2 off m l2 G2) (hbM : base ≤ M) (hM : M ≤ w.heap.size) (hn : n + m ≤ 1048576)
    (hs : a.eval s = v) (hx : a.eval x = .slice (some ⟨b2, off, none⟩) m c)
    (hK : ∀ v' w', PBuf 62 base w'.heap.size w' v' (n + m) (l ++ l2) (G ++ G2) → Below base w w' → w.grownBy w' v.ownBlock → (v'.ownBlock = v.ownBlock ∨ v'.ownBlock = some w.heap.size) → wpList Tryz.prog ops Q rest (a.put o.dst v') w') :
    wpList Tryz.prog ops Q (o :: rest) a w := by
  refine wpList_plain hgd fun K hK' => ?_
  obtain ⟨v', w', hr, h2, h3, h4, h5⟩ := run_append_parts_at (c := c) o.type h hN hbM hM hn
  unfold Oper.wp execOp
  simp only [ho, resolve, invoke, builtin, Sem.run_bind, Sem.run_pure, Result.andThen_ok, List.map_toArray, List.map_cons, List.map_nil, hs, hx, hr]
  exact hK' _ _ (hK v' w' h2 h3 h4 h5)

theorem wpList_append_parts {ops : Array Oper} {rest : List Oper} {o : Oper} {a : Act} {Q : Exit → Act → World → Prop} {w : World} (hgd : o.guard = none) (s x : Operand)
    (ho : o.op = .call { callee := .builtin .append, args := #[s, x], argTypes := #[24, 24] })
    {base M n m c b2 off : Nat} {v : Value} {l l2 : List Prt} {G G2 : List Body} (h : PBuf 62 base M w v n l G) (hN : News M w b2 off m l2 G2) (hbM : base ≤ M) (hM : M ≤ w.heap.size) (hn : n + m ≤ 1048576)
    (hs : a.eval s = v) (hx : a.eval x = .slice (some ⟨b2, off, none⟩) m c)
    (hK : ∀ v' w', PBuf 62 base w'.heap.size w' v' (n + m) (l ++ l2) (G ++ G2) → Below base w w' → w.grownBy w' v.ownBlock → wpList Tryz.prog ops Q rest (a.put o.dst v') w') :
    wpList Tryz.prog ops Q (o :: rest) a w := by
  refine wpList_plain hgd fun K hK' => ?_
  obtain ⟨v', w', hr, h2, h3, h4⟩ := run_append_parts (c := c) o.type h hN hbM hM hn
  unfold Oper.wp execOp
  simp only [ho, resolve, invoke, builtin, Sem.run_bind, Sem.run_pure, Result.andThen_ok, List.map_toArray, List.map_cons, List.map_nil, hs, hx, hr]
  exact hK' _ _ (hK v' w' h2 h3 h4)

theorem step_append_parts {ops : Array Oper} {o : Oper} {a : Act} {w : World} {K : Act → World → Prop} {Q : Exit → Act → World → Prop} {E : Prop} (hgd : o.guard = none) (s x : Operand)
    (ho : o.op = .call { callee := .builtin .append, args := #[s, x], argTypes := #[24, 24] })
    {base M n m c b2 off : Nat} {v : Value} {l l2 : List Prt} {G G2 : List Body} (h : PBuf 62 base M w v n l G) (hN : News M w b2 off m l2 G2) (hbM : base ≤ M) (hM : M ≤ w.heap.size) (hn : n + m ≤ 1048576)
    (hs : a.eval s = v) (hx : a.eval x = .slice (some ⟨b2, off, none⟩) m c)
    (hK : ∀ v' w', PBuf 62 base w'.heap.size w' v' (n + m) (l ++ l2) (G ++ G2) → Below base w w' → w.grownBy w' v.ownBlock → K (a.put o.dst v') w') :
    if Region.wanted o (yielded ops a.tmps) = true then Oper.wp Tryz.prog o a w K Q else E := by
  have hw : Region.wanted o (yielded ops a.tmps) = true := by simp [Region.wanted, hgd]
  rw [if_pos hw]
  obtain ⟨v', w', hr, h2, h3, h4⟩ := run_append_parts (c := c) o.type h hN hbM hM hn
  unfold Oper.wp execOp
  simp only [ho, resolve, invoke, builtin, Sem.run_bind, Sem.run_pure, Result.andThen_ok, List.map_toArray, List.map_cons, List.map_nil, hs, hx, hr]
  exact hK v' w' h2 h3 h4
end Go.Proofs.YtedjclnojocjkaaGreatDoor.Parts
