/-
  Two lists of parts that lie apart, joined; one use more in a list of the call's own.
  Conditions: none.
-/
import Derived.Test.YtedjclnojocjkaaGreatDoorPutMath
import Derived.Test.YtedjclnojocjkaaGreatDoorAppend
namespace Go.Proofs.YtedjclnojocjkaaGreatDoor.Parts
open Go Go.RowKit Go.Proofs.YtedjclnojocjkaaGreatDoor.Mem

/-- Nothing of a list of parts lies in the blocks from lo on and below hi. -/
structure Off (lo hi : Nat) (v : Value) (n : Nat) (l : List Prt) (G : List Body) : Prop where
  row : ∀ b, v.ownBlock = some b → b < lo ∨ hi ≤ b
  body : ∀ i, i < n → ∀ x, (G.getD i noBody).1 = some x → 0 < (pt l i).zs.length → x.block < lo ∨ hi ≤ x.block
section
variable {T : TypeId} {base hi M n lo : Nat} {w w' : World} {v v' : Value} {l : List Prt} {G : List Body}
theorem PBuf.off (h : PBuf T base M w v n l G) (hM : M ≤ lo) : Off lo hi v n l G :=
  ⟨fun b e => .inl (Nat.lt_of_lt_of_le (h.lt b e) hM), fun i hi x hx hp => .inl (by have := (own_block (h.body i hi).1 x hx hp).2; omega)⟩
theorem Off.next {s : Nat} {P : Prt} {f : Body} (h : Off lo hi v n l G) (h0 : l.length = n) (h1 : G.length = l.length) (hat : v'.ownBlock = v.ownBlock ∨ v'.ownBlock = some s) (hs : s < lo ∨ hi ≤ s) (hb : ∀ x, f.1 = some x → 0 < P.zs.length → x.block < lo ∨ hi ≤ x.block) : Off lo hi v' (n + 1) (l ++ [P]) (G ++ [f]) := by
  refine ⟨fun b e => ?_, fun i hi' x hx hp => ?_⟩
  · rcases hat with e1 | e1
    · exact h.row b (by rw [← e1]; exact e)
    · rw [e1] at e; injection e with e; omega
  · by_cases hin : i < n
    · rw [pt_left (by omega)] at hp; rw [body_left (by omega)] at hx
      exact h.body i hin x hx hp
    · obtain rfl : i = n := by omega
      rw [pt_right (by omega), show i - l.length = 0 by omega] at hp
      rw [body_right (by omega), show i - G.length = 0 by omega] at hx
      exact hb x hx hp
theorem PBuf.joinD {m : Nat} {l2 : List Prt} {G2 : List Body} {v2 : Value} (h : PBuf T base M w v n l G) (hr : w'.ownsRow base T 7 v' (n + m) (flat (l ++ l2) (G ++ G2))) (hg : w.grownBy w' v.ownBlock) (hat : v'.ownBlock = v.ownBlock ∨ v'.ownBlock = some w.heap.size) (hM : M ≤ w.heap.size)
    (h2 : PBuf T lo hi w v2 m l2 G2) (hlo : base ≤ lo) (hhi : hi ≤ w.heap.size) (ho : Off lo hi v n l G) :
    PBuf T base w'.heap.size w' v' (n + m) (l ++ l2) (G ++ G2) := by
  have hl := h.len
  have hG := h.lenG
  have hl2 := h2.len
  have hG2 := h2.lenG
  have hsz := hg.size
  have hlt : ∀ b, v'.ownBlock = some b → b < w'.heap.size := fun b hb => (hr.lt b hb).2
  have hkeep : ∀ (lo hi : Nat) (a : Option Addr) (k : Nat) (zs : List Int), (∀ x, a = some x → 0 < k → v.ownBlock ≠ some x.block) → Own .i64 lo hi w a k zs → hi ≤ w.heap.size → Own .i64 lo w'.heap.size w' a k zs := by
    intro lo hi a k zs hne hO hh
    refine ⟨hO.len, hO.wf, fun hp => ?_⟩
    obtain ⟨g, off, e1, e2, e3, e4⟩ := hO.here hp
    refine ⟨g, off, e1, e2, by omega, fun t ht => ?_⟩
    have e := hg.block g (by omega) (fun e => hne _ e1 hp e.symm)
    rw [cell_of_heap e, frozen_of_heap e]
    exact e4 t ht
  have hne2 : ∀ i, i < m → ∀ x, (G2.getD i noBody).1 = some x → 0 < (pt l2 i).zs.length → lo ≤ x.block ∧ x.block < hi ∧ v.ownBlock ≠ some x.block := fun i hi x hx hp => by
    have a2 := own_block (h2.body i hi).1 x hx hp
    exact ⟨a2.1, a2.2, fun e => by have a1 := ho.row _ e; omega⟩
  refine ⟨by simp; omega, by simp; omega, hr, hlt, fun P hP => by
    rcases List.mem_append.1 hP with q | q
    · exact h.wf P q
    · exact h2.wf P q, fun i hi => ?_, fun i hi x hx hp => ?_, fun i j hi hj hne x y hx hy hpx hpy => ?_⟩
  · by_cases hin : i < n
    · rw [pt_left (by omega), body_left (by omega)]
      exact ⟨hkeep _ _ _ _ _ (fun x hx hp => h.out i hin x hx hp) (h.body i hin).1 hM, (h.body i hin).2⟩
    · rw [pt_right (by omega), body_right (by omega), hG, hl]
      have q := h2.body (i - n) (by omega)
      exact ⟨(hkeep _ _ _ _ _ (fun x hx hp => (hne2 (i - n) (by omega) x hx hp).2.2) q.1 hhi).more hlo (Nat.le_refl _), q.2⟩
  · have hxb : x.block < w.heap.size ∧ v.ownBlock ≠ some x.block := by
      by_cases hin : i < n
      · rw [pt_left (by omega)] at hp; rw [body_left (by omega)] at hx
        have a1 := (own_block (h.body i hin).1 x hx hp).2
        exact ⟨by omega, h.out i hin x hx hp⟩
      · rw [pt_right (by omega), hl] at hp; rw [body_right (by omega), hG, hl] at hx
        have a2 := hne2 (i - n) (by omega) x hx hp
        exact ⟨by omega, a2.2.2⟩
    rcases hat with e | e
    · rw [e]; exact hxb.2
    · rw [e]; intro e2; injection e2 with e2; omega
  · by_cases hin : i < n
    · rw [pt_left (by omega)] at hpx; rw [body_left (by omega)] at hx
      by_cases hjn : j < n
      · rw [pt_left (by omega)] at hpy; rw [body_left (by omega)] at hy
        exact h.sep i j hin hjn hne x y hx hy hpx hpy
      · rw [pt_right (by omega), hl] at hpy; rw [body_right (by omega), hG, hl] at hy
        have a1 := ho.body i hin x hx hpx
        have a2 := hne2 (j - n) (by omega) y hy hpy
        omega
    · rw [pt_right (by omega), hl] at hpx; rw [body_right (by omega), hG, hl] at hx
      by_cases hjn : j < n
      · rw [pt_left (by omega)] at hpy; rw [body_left (by omega)] at hy
        have a1 := ho.body j hjn y hy hpy
        have a2 := hne2 (i - n) (by omega) x hx hpx
        omega
      · rw [pt_right (by omega), hl] at hpy; rw [body_right (by omega), hG, hl] at hy
        exact h2.sep (i - n) (j - n) (by omega) (by omega) (by omega) x y hx hy hpx hpy
end

theorem run_append_list {base M n m lo hi : Nat} {w : World} {v v2 : Value} {l l2 : List Prt} {G G2 : List Body} (ty : TypeId) (h : PBuf 62 base M w v n l G) (h2 : PBuf 62 lo hi w v2 m l2 G2) (ho : Off lo hi v n l G) (hbM : base ≤ M) (hM : M ≤ w.heap.size) (hlo : base ≤ lo) (hhi : hi ≤ w.heap.size) (hn : n + m ≤ 1048576) :
    ∃ v' w', (Builtin.append_ #[24, 24] ty #[v, v2]).run Tryz.prog w = .ok v' w' ∧ PBuf 62 base w'.heap.size w' v' (n + m) (l ++ l2) (G ++ G2) ∧ Below base w w' := by
  obtain ⟨i0, hi0, hz0, hz1, hz2⟩ := info_parts info7'
  rcases h2.row.2 with ⟨rfl, rfl⟩ | ⟨g, cap, cur, rfl, hb, hg, hnc, hcm, hcs, ht⟩
  · have hr := run_append_owned_none (P := Tryz.prog) (w := w) base 24 ty 62 i0 7 Tryz.underlying24 hi0 v n (flat l G) h.row
    have e2 : l2 = [] := List.eq_nil_of_length_eq_zero h2.len
    subst e2
    have e3 : G2 = [] := List.eq_nil_of_length_eq_zero h2.lenG
    subst e3
    exact ⟨v, w, hr, by simpa using h.more hM, Below.refl _ _⟩
  · have hcells := flat_cells (off := 0) h2.lenG h2.len (fun i hi => by rw [Nat.zero_add]; exact h2.cells rfl i hi)
    obtain ⟨v', w', hr, h2', h3, _, h5⟩ := run_append_own_at (P := Tryz.prog) w base 24 ty 62 i0 _ 7 72 Tryz.underlying24 hi0 hz0 hz1 hz2 rfl (by omega) v n (flat l G) h.row ⟨g, 0, none⟩ m cap (flat l2 G2) (by rw [flat_length _ _ h2.lenG, h2.len]) hcells (flat_one l2 G2) (by unfold maxLen; omega) (by omega) (by omega)
    rw [← flat_append l l2 G G2 h.lenG] at h2'
    exact ⟨v', w', hr, h.joinD h2' h3 h5 hM h2 hlo hhi ho, (Below.refl _ _).grown h3 (by omega) (fun k hk => (h.row.lt k hk).1)⟩

theorem step_append_list {ops : Array Oper} {o : Oper} {a : Act} {w : World} {K : Act → World → Prop} {Q : Exit → Act → World → Prop} {E : Prop} (hgd : o.guard = none) (s x : Operand)
    (ho : o.op = .call { callee := .builtin .append, args := #[s, x], argTypes := #[24, 24] })
    {base M n m lo hi : Nat} {v v2 : Value} {l l2 : List Prt} {G G2 : List Body} (h : PBuf 62 base M w v n l G) (h2 : PBuf 62 lo hi w v2 m l2 G2) (hoff : Off lo hi v n l G) (hbM : base ≤ M) (hM : M ≤ w.heap.size) (hlo : base ≤ lo) (hhi : hi ≤ w.heap.size) (hn : n + m ≤ 1048576)
    (hs : a.eval s = v) (hx : a.eval x = v2)
    (hK : ∀ v' w', PBuf 62 base w'.heap.size w' v' (n + m) (l ++ l2) (G ++ G2) → Below base w w' → K (a.put o.dst v') w') :
    if Region.wanted o (yielded ops a.tmps) = true then Oper.wp Tryz.prog o a w K Q else E := by
  have hw : Region.wanted o (yielded ops a.tmps) = true := by simp [Region.wanted, hgd]
  rw [if_pos hw]
  obtain ⟨v', w', hr, h3, h4⟩ := run_append_list o.type h h2 hoff hbM hM hlo hhi hn
  unfold Oper.wp execOp
  simp only [ho, resolve, invoke, builtin, Sem.run_bind, Sem.run_pure, Result.andThen_ok, List.map_toArray, List.map_cons, List.map_nil, hs, hx, hr]
  exact hK v' w' h3 h4

theorem step_append_parts_at {ops : Array Oper} {o : Oper} {a : Act} {w : World} {K : Act → World → Prop} {Q : Exit → Act → World → Prop} {E : Prop} (hgd : o.guard = none) (s x : Operand)
    (ho : o.op = .call { callee := .builtin .append, args := #[s, x], argTypes := #[24, 24] })
    {base M n m c b2 off : Nat} {v : Value} {l l2 : List Prt} {G G2 : List Body} (h : PBuf 62 base M w v n l G) (hN : News M w b2 off m l2 G2) (hbM : base ≤ M) (hM : M ≤ w.heap.size) (hn : n + m ≤ 1048576)
    (hs : a.eval s = v) (hx : a.eval x = .slice (some ⟨b2, off, none⟩) m c)
    (hK : ∀ v' w', PBuf 62 base w'.heap.size w' v' (n + m) (l ++ l2) (G ++ G2) → Below base w w' → w.grownBy w' v.ownBlock → (v'.ownBlock = v.ownBlock ∨ v'.ownBlock = some w.heap.size) → K (a.put o.dst v') w') :
    if Region.wanted o (yielded ops a.tmps) = true then Oper.wp Tryz.prog o a w K Q else E := by
  have hw : Region.wanted o (yielded ops a.tmps) = true := by simp [Region.wanted, hgd]
  rw [if_pos hw]
  obtain ⟨v', w', hr, h2, h3, h4, h5⟩ := run_append_parts_at (c := c) o.type h hN hbM hM hn
  unfold Oper.wp execOp
  simp only [ho, resolve, invoke, builtin, Sem.run_bind, Sem.run_pure, Result.andThen_ok, List.map_toArray, List.map_cons, List.map_nil, hs, hx, hr]
  exact hK v' w' h2 h3 h4 h5

/-- A list that another's growth leaves as it was. -/
theorem PBuf.grown {T : TypeId} {lo hi n : Nat} {w w' : World} {v : Value} {l : List Prt} {G : List Body} {row : Option Nat} (h : PBuf T lo hi w v n l G) (hg : w.grownBy w' row) (hr : ∀ b, row = some b → b < lo ∨ hi ≤ b) : PBuf T lo hi w' v n l G :=
  h.keep fun i h0 h1 h2 => hg.block i h0 (fun e => by have := hr i e.symm; omega)

theorem pt_set_same {l : List Prt} {k : Nat} (h : k < l.length) (P : Prt) : pt (l.set k P) k = P := by simp [pt, List.getD_eq_getElem?_getD, h]
theorem pt_set_other {l : List Prt} {k i : Nat} (h : i ≠ k) (P : Prt) : pt (l.set k P) i = pt l i := by
  simp only [pt, List.getD_eq_getElem?_getD]
  rw [List.getElem?_set_ne (fun e => h e.symm)]
theorem flat_set : ∀ (l : List Prt) (G : List Body) (k : Nat), G.length = l.length → k < l.length → flat (l.set k (inc (pt l k))) G = (flat l G).set (k * 7 + 6) (.int .i64 ((pt l k).u + 1))
  | [], _, _, _, h => by simp at h
  | _ :: _, [], _, h, _ => by simp at h
  | P :: l, f :: G, 0, _, _ => by
    simp [flat, flat1, pt, inc]
  | P :: l, f :: G, k + 1, h, hk => by
    have ih := flat_set l G k (by simpa using h) (by simpa using hk)
    rw [show pt (P :: l) (k + 1) = pt l k by simp [pt]]
    simp only [List.set_cons_succ, flat]
    rw [ih, List.set_append_right _ _ (by simp [flat1]; omega), show (k + 1) * 7 + 6 - (flat1 P f).length = k * 7 + 6 by simp [flat1]; omega]
/-- One use more, written into the list. -/
theorem PBuf.used {T : TypeId} {base hi n k g c : Nat} {w : World} {l : List Prt} {G : List Body} (h : PBuf T base hi w (.slice (some ⟨g, 0, none⟩) n c) n l G) (hk : k < n) (hw : (inc (pt l k)).Wf) :
    PBuf T base hi (w.setCell ⟨g, k * 7 + 6, none⟩ (.int .i64 ((pt l k).u + 1))) (.slice (some ⟨g, 0, none⟩) n c) n (l.set k (inc (pt l k))) G ∧ Below base w (w.setCell ⟨g, k * 7 + 6, none⟩ (.int .i64 ((pt l k).u + 1))) := by
  have hl := h.len
  have hz : ∀ i, (pt (l.set k (inc (pt l k))) i).zs = (pt l i).zs := fun i => by
    by_cases he : i = k
    · subst he; rw [pt_set_same (by omega)]; rfl
    · rw [pt_set_other he]
  obtain ⟨h1, h2⟩ := h.row.stored (k * 7 + 6) (.int .i64 ((pt l k).u + 1))
  rw [← flat_set l G k h.lenG (by omega)] at h1
  have hgb : base ≤ g := (h.row.lt g rfl).1
  refine ⟨⟨by simpa using hl, by simpa using h.lenG, h1, h.lt, fun P hP => ?_, fun i hi' => ?_, fun i hi' x hx hp => ?_, fun i j hi' hj hne x y hx hy hpx hpy => ?_⟩, (Below.refl _ _).setCell hgb _⟩
  · rcases List.mem_or_eq_of_mem_set hP with q | rfl
    · exact h.wf P q
    · exact hw
  · obtain ⟨q1, q2, q3⟩ := h.body i hi'
    rw [hz i]
    refine ⟨⟨q1.len, q1.wf, fun hp => ?_⟩, q2, q3⟩
    obtain ⟨b, off, e1, e2, e3, e4⟩ := q1.here hp
    have hbg : b ≠ g := fun e => h.out i hi' _ e1 hp (by rw [e]; rfl)
    refine ⟨b, off, e1, e2, e3, fun t ht => ?_⟩
    have e := Below.heap_setCell w ⟨g, k * 7 + 6, none⟩ (.int .i64 ((pt l k).u + 1)) b hbg
    rw [cell_of_heap e, frozen_of_heap e]
    exact e4 t ht
  · rw [hz i] at hp; exact h.out i hi' x hx hp
  · rw [hz i] at hpx; rw [hz j] at hpy; exact h.sep i j hi' hj hne x y hx hy hpx hpy
end Go.Proofs.YtedjclnojocjkaaGreatDoor.Parts
