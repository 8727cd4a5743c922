/-
  A list of parts after a write into one of them, and after an append of a part that is there: it can be read.
  Conditions: none.
-/
import Derived.Test.YtedjclnojocjkaaGreatDoorPutJoin
import Derived.Test.YtedjclnojocjkaaGreatDoorDrawAny4
import Derived.Test.YtedjclnojocjkaaGreatDoorDrawOwn
namespace Go.Proofs.YtedjclnojocjkaaGreatDoor.Parts
open Go Go.RowKit Go.Proofs.YtedjclnojocjkaaGreatDoor.Mem Go.Proofs.YtedjclnojocjkaaGreatDoor.Draw

section
variable {T : TypeId} {base hi n p : Nat} {w w' : World} {v : Value} {l : List Prt} {G : List Body}
theorem PBuf.on (h : PBuf T base hi w v n l G) (ho : Only p w w') (hp : p < base) : PBuf T base hi w' v n l G := h.keep fun i h0 h1 _ => ho.block i h0 (by omega)
theorem PRow.on {lo : Nat} {a : Option Addr} (h : PRow lo hi w a n l) (ho : Only p w w') (hp : p < lo) : PRow lo hi w' a n l := h.keep fun i h0 h1 _ => ho.block i h0 (by omega)
theorem Row.on {k : IntKind} {lo : Nat} {a : Option Addr} {zs : List Int} (h : Row k lo hi w a n zs) (ho : Only p w w') (hp : p < lo) : Row k lo hi w' a n zs := h.keep fun i h0 h1 _ => ho.block i h0 (by omega)
theorem room_set {P : Prt} : ∀ {l : List Prt} {i : Nat}, room (l.set i P) ≤ room l + P.zs.length
  | [], _ => by simp [room]
  | Q :: l, 0 => by simp only [List.set_cons_zero, room]; omega
  | Q :: l, i + 1 => by
    have := room_set (P := P) (l := l) (i := i)
    simp only [List.set_cons_succ, room]; omega
theorem room_append : ∀ (l k : List Prt), room (l ++ k) = room l + room k
  | [], k => by simp [room]
  | P :: l, k => by simp only [List.cons_append, room]; rw [room_append l k]; omega
theorem own_other {k : IntKind} {lo hi hi' g : Nat} {a : Option Addr} {zs : List Int} (h : Own k lo hi w a n zs) (hh : hi ≤ hi') (hk : ∀ i, i < hi → i ≠ g → w'.heap[i]? = w.heap[i]?) (hne : ∀ x, a = some x → 0 < n → x.block ≠ g) : Row k lo hi' w' a n zs :=
  ⟨h.len, h.wf, fun hn => by
    obtain ⟨b, off, e1, e2, e3, e4⟩ := h.here hn
    refine ⟨b, off, e1, e2, by omega, fun t ht => ?_⟩
    rw [Mem.cell_of_heap (hk b e3 (hne _ e1 hn))]
    exact (e4 t ht).1⟩
theorem row_edit {g c hi' i : Nat} {P : Prt} {A : Option Addr} {c' : Nat} (h : PBuf T base hi w (.slice (some ⟨g, 0, none⟩) n c) n l G) (hn : i < n) (hh : hi ≤ hi') (hk : ∀ k, k < hi → k ≠ g → w'.heap[k]? = w.heap[k]?)
    (hc : ∀ x, x < i * 7 ∨ i * 7 + 7 ≤ x → w'.cell? ⟨g, x, none⟩ = w.cell? ⟨g, x, none⟩) (hp : Cells7 w' g (i * 7) P A c') (hl : Lain base hi' w' P A c') (hw : P.Wf) : PRow base hi' w' (some ⟨g, 0, none⟩) n (l.set i P) := by
  have hlen := h.len
  refine ⟨by simpa using hlen, fun Q hQ => ?_, fun _ => ⟨g, 0, rfl, (h.row.lt g rfl).1, Nat.lt_of_lt_of_le (h.lt g rfl) hh, fun j hj => ?_⟩⟩
  · rcases List.mem_or_eq_of_mem_set hQ with q | rfl
    · exact h.wf Q q
    · exact hw
  · rw [Nat.zero_add]
    by_cases he : j = i
    · subst he
      rw [pt_set_same (by omega)]
      exact ⟨A, c', hp, hl⟩
    · rw [pt_set_other he]
      obtain ⟨c0, c1, c2, c3, c4, c5, c6⟩ := h.cells rfl j hj
      obtain ⟨b1, b2, b3⟩ := h.body j hj
      refine ⟨_, _, ⟨?_, ?_, ?_, ?_, ?_, ?_, ?_⟩, own_other b1 hh hk (fun x hx hp e => h.out j hj x hx hp (by rw [e]; rfl)), b2, b3⟩
      all_goals rw [hc _ (by omega)]; assumption
/-- Any row of cells of parts whose bodies can be read. -/
theorem row_of_flat {hi' : Nat} (h : w.ownsRow base T 7 v n (flat l G)) (hl : l.length = n) (hG : G.length = l.length) (hlt : ∀ b, v.ownBlock = some b → b < hi') (hwf : ∀ P ∈ l, P.Wf) (hb : ∀ i, i < n → Lain base hi' w (pt l i) (G.getD i noBody).1 (G.getD i noBody).2) : ∃ a c, v = .slice a n c ∧ n ≤ c ∧ PRow base hi' w a n l := by
  rcases h.2 with ⟨rfl, rfl⟩ | ⟨g, cap, cur, rfl, hbb, hg, hnc, hcm, hcs, _⟩
  · exact ⟨none, 0, rfl, Nat.le_refl _, hl, hwf, fun h0 => absurd h0 (by omega)⟩
  · refine ⟨_, cap, rfl, hnc, hl, hwf, fun _ => ⟨g, 0, rfl, hbb, hlt g rfl, fun i hi => ?_⟩⟩
    rw [Nat.zero_add]
    have key : ∀ x, x < 7 → w.cell? ⟨g, i * 7 + x, none⟩ = (flat1 (pt l i) (G.getD i noBody))[x]? := fun x hx => by
      rw [h.cellAt _ (by omega), flat_at l G i x hG (by omega) hx]
    exact ⟨_, _, ⟨key 0 (by omega), key 1 (by omega), key 2 (by omega), key 3 (by omega), key 4 (by omega), key 5 (by omega), key 6 (by omega)⟩, hb i hi⟩
end

/-- An append of a part that is there: its body is shared. -/
theorem run_append_shared {base M n b2 c : Nat} {w : World} {v : Value} {l : List Prt} {G : List Body} {P : Prt} {f : Body} (ty : TypeId) (h : PBuf 62 base M w v n l G) (hc : Cells7 w b2 0 P f.1 f.2) (hM : M ≤ w.heap.size) (hbM : base ≤ M) (hn : n + 1 ≤ 1048576)
    (hP : P ∈ l) (hf : Own .i64 base M w f.1 P.zs.length P.zs ∧ P.zs.length ≤ f.2 ∧ f.2 ≤ maxLen) (hfv : ∀ x, f.1 = some x → 0 < P.zs.length → v.ownBlock ≠ some x.block) :
    ∃ v' w', (Builtin.append_ #[24, 24] ty #[v, .slice (some ⟨b2, 0, none⟩) 1 c]).run Tryz.prog w = .ok v' w' ∧ (∃ a' c', v' = .slice a' (n + 1) c' ∧ n + 1 ≤ c' ∧ PRow base w'.heap.size w' a' (n + 1) (l ++ [P])) ∧ Below base w w' ∧ w.grownBy w' v.ownBlock ∧ w.heap.size ≤ w'.heap.size := by
  obtain ⟨i0, hi0, hz0, hz1, hz2⟩ := info_parts info7'
  have hl := h.len
  have hG := h.lenG
  have hcells := flat_cells (w := w) (b := b2) (off := 0) (n := 1) (l := [P]) (G := [f]) rfl rfl (fun i hi => by obtain rfl : i = 0 := (by omega); exact hc)
  obtain ⟨v', w', hr, h2, h3, _, h5⟩ := run_append_own_at (P := Tryz.prog) w base 24 ty 62 i0 _ 7 72 Tryz.underlying24 hi0 hz0 hz1 hz2 rfl (by omega) v n (flat l G) h.row ⟨b2, 0, none⟩ 1 c (flat [P] [f]) rfl hcells (flat_one [P] [f]) (by unfold maxLen; omega) (by omega) (by omega)
  rw [← flat_append l [P] G [f] hG] at h2
  have hkeep : ∀ i, i < M → some i ≠ v.ownBlock → w'.heap[i]? = w.heap[i]? := fun i hi hne => h3.block i (by omega) hne
  have hbody : ∀ (a : Option Addr) (k : Nat) (zs : List Int), Own .i64 base M w a k zs → (∀ x, a = some x → 0 < k → v.ownBlock ≠ some x.block) → Row .i64 base w'.heap.size w' a k zs := by
    intro a k zs ho hne
    refine ⟨ho.len, ho.wf, fun hp => ?_⟩
    obtain ⟨b, off, e1, e2, e3, e4⟩ := ho.here hp
    refine ⟨b, off, e1, e2, by have := h3.size; omega, fun t ht => ?_⟩
    rw [Mem.cell_of_heap (hkeep b e3 (fun e => hne _ e1 hp e.symm))]
    exact (e4 t ht).1
  refine ⟨v', w', hr, row_of_flat h2 (by simp; omega) (by simp; omega) (fun b hb => (h2.lt b hb).2) (fun Q hQ => ?_) (fun i hi => ?_), (Below.refl _ _).grown h3 (by omega) (fun k hk => (h.row.lt k hk).1), h3, h3.size⟩
  · rcases List.mem_append.1 hQ with q | q
    · exact h.wf Q q
    · simp at q; subst q; exact h.wf Q hP
  · by_cases hin : i < n
    · rw [pt_left (by omega), body_left (by omega)]
      obtain ⟨b1, b2, b3⟩ := h.body i hin
      exact ⟨hbody _ _ _ b1 (fun x hx hp => h.out i hin x hx hp), b2, b3⟩
    · rw [pt_right (by omega), body_right (by omega), show i - l.length = 0 by omega, show i - G.length = 0 by omega]
      exact ⟨hbody _ _ _ hf.1 hfv, hf.2.1, hf.2.2⟩

theorem wpList_append_shared {ops : Array Oper} {rest : List Oper} {o : Oper} {a : Act} {Q : Exit → Act → World → Prop} {w : World} (hgd : o.guard = none) (s x : Operand)
    (ho : o.op = .call { callee := .builtin .append, args := #[s, x], argTypes := #[24, 24] })
    {base M n b2 c : Nat} {v : Value} {l : List Prt} {G : List Body} {P : Prt} {f : Body} (h : PBuf 62 base M w v n l G) (hc : Cells7 w b2 0 P f.1 f.2) (hM : M ≤ w.heap.size) (hbM : base ≤ M) (hn : n + 1 ≤ 1048576)
    (hP : P ∈ l) (hf : Own .i64 base M w f.1 P.zs.length P.zs ∧ P.zs.length ≤ f.2 ∧ f.2 ≤ maxLen) (hfv : ∀ x, f.1 = some x → 0 < P.zs.length → v.ownBlock ≠ some x.block)
    (hs : a.eval s = v) (hx : a.eval x = .slice (some ⟨b2, 0, none⟩) 1 c)
    (hK : ∀ v' w', (∃ a' c', v' = .slice a' (n + 1) c' ∧ n + 1 ≤ c' ∧ PRow base w'.heap.size w' a' (n + 1) (l ++ [P])) → Below base w w' → w.grownBy w' v.ownBlock → w.heap.size ≤ w'.heap.size → wpList Tryz.prog ops Q rest (a.put o.dst v') w') :
    wpList Tryz.prog ops Q (o :: rest) a w := by
  refine wpList_plain hgd fun K hK' => ?_
  obtain ⟨v', w', hr, h2, h3, h4, h5⟩ := run_append_shared (c := c) o.type h hc hM hbM hn hP hf hfv
  unfold Oper.wp execOp
  simp only [ho, resolve, invoke, builtin, Sem.run_bind, Sem.run_pure, Result.andThen_ok, List.map_toArray, List.map_cons, List.map_nil, hs, hx, hr]
  exact hK' _ _ (hK v' w' h2 h3 h4 h5)

section
variable {g o : Nat} {w : World} {P : Prt} {A : Option Addr} {c : Nat}
theorem Cells7.setD (h : Cells7 w g o P A c) (d : Int) : Cells7 (w.setCell ⟨g, o, none⟩ (.int .i64 d)) g o { P with d := d } A c := by
  obtain ⟨c0, c1, c2, c3, c4, c5, c6⟩ := h
  refine ⟨World.cell?_setCell_same _ _ _ c0, ?_, ?_, ?_, ?_, ?_, ?_⟩
  all_goals rw [cell_set_ne _ (by omega)]; assumption
theorem Cells7.setU (h : Cells7 w g o P A c) (u : Int) : Cells7 (w.setCell ⟨g, o + 6, none⟩ (.int .i64 u)) g o { P with u := u } A c := by
  obtain ⟨c0, c1, c2, c3, c4, c5, c6⟩ := h
  refine ⟨?_, ?_, ?_, ?_, ?_, ?_, World.cell?_setCell_same _ _ _ c6⟩
  all_goals rw [cell_set_ne _ (by omega)]; assumption
/-- A part's resource is written. -/
def set5 (w : World) (g o : Nat) (k : Int) (s : Value) (h p q : Int) : World := ((((w.setCell ⟨g, o + 1, none⟩ (.int .i64 k)).setCell ⟨g, o + 2, none⟩ s).setCell ⟨g, o + 3, none⟩ (.int .i64 h)).setCell ⟨g, o + 4, none⟩ (.int .i64 p)).setCell ⟨g, o + 5, none⟩ (.int .i64 q)
theorem Cells7.setR (hC : Cells7 w g o P A c) (k h p q : Int) (zs : List Int) (A' : Option Addr) (c' : Nat) : Cells7 (set5 w g o k (.slice A' zs.length c') h p q) g o { P with k := k, zs := zs, h := h, p := p, q := q } A' c' := by
  obtain ⟨c0, c1, c2, c3, c4, c5, c6⟩ := hC
  unfold set5
  refine ⟨?_, ?_, ?_, ?_, ?_, ?_, ?_⟩
  · rw [cell_set_ne _ (by omega), cell_set_ne _ (by omega), cell_set_ne _ (by omega), cell_set_ne _ (by omega), cell_set_ne _ (by omega)]; exact c0
  · rw [cell_set_ne _ (by omega), cell_set_ne _ (by omega), cell_set_ne _ (by omega), cell_set_ne _ (by omega), World.cell?_setCell_same _ _ _ c1]
  · rw [cell_set_ne _ (by omega), cell_set_ne _ (by omega), cell_set_ne _ (by omega), World.cell?_setCell_same _ _ _ (by rw [cell_set_ne _ (by omega)]; exact c2)]
  · rw [cell_set_ne _ (by omega), cell_set_ne _ (by omega), World.cell?_setCell_same _ _ _ (by rw [cell_set_ne _ (by omega), cell_set_ne _ (by omega)]; exact c3)]
  · rw [cell_set_ne _ (by omega), World.cell?_setCell_same _ _ _ (by rw [cell_set_ne _ (by omega), cell_set_ne _ (by omega), cell_set_ne _ (by omega)]; exact c4)]
  · rw [World.cell?_setCell_same _ _ _ (by rw [cell_set_ne _ (by omega), cell_set_ne _ (by omega), cell_set_ne _ (by omega), cell_set_ne _ (by omega)]; exact c5)]
  · rw [cell_set_ne _ (by omega), cell_set_ne _ (by omega), cell_set_ne _ (by omega), cell_set_ne _ (by omega), cell_set_ne _ (by omega)]; exact c6
theorem set5_block (w : World) (g o : Nat) (k : Int) (s : Value) (h p q : Int) (i : Nat) (hi : i ≠ g) : (set5 w g o k s h p q).heap[i]? = w.heap[i]? := by
  unfold set5
  rw [Below.heap_setCell _ _ _ _ hi, Below.heap_setCell _ _ _ _ hi, Below.heap_setCell _ _ _ _ hi, Below.heap_setCell _ _ _ _ hi, Below.heap_setCell _ _ _ _ hi]
theorem set5_size (w : World) (g o : Nat) (k : Int) (s : Value) (h p q : Int) : (set5 w g o k s h p q).heap.size = w.heap.size := by unfold set5; simp [World.setCell]
theorem set5_other (w : World) (g o : Nat) (k : Int) (s : Value) (h p q : Int) (x : Nat) (hx : x < o + 1 ∨ o + 6 ≤ x) : (set5 w g o k s h p q).cell? ⟨g, x, none⟩ = w.cell? ⟨g, x, none⟩ := by
  unfold set5
  rw [cell_set_ne _ (by omega), cell_set_ne _ (by omega), cell_set_ne _ (by omega), cell_set_ne _ (by omega), cell_set_ne _ (by omega)]
end
end Go.Proofs.YtedjclnojocjkaaGreatDoor.Parts
