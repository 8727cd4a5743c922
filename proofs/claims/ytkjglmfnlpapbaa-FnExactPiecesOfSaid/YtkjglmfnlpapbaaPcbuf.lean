/-
  Words for a slice of pieces that a call builds: its row of cells, the bodies behind it; what an append, a cut, a write makes of it.
  Conditions: none; nothing of the program stands here.
-/
import Derived.Test.YtkjglmfnlpapbaaPc
import Derived.Test.YtkjglmfnlpapbaaTrio
import Derived.Maps.AppendAt
import Derived.Laws.OwnMore
namespace Go.Proofs.Ytkjglmfnlpapbaa.Pieces
open Go Go.RowKit Go.Proofs.Ytkjglmfnlpapbaa.Mem

abbrev Body := Option Addr × Nat
def noBody : Body := (none, 0)
def upd (F : Nat → Body) (j : Nat) (f : Body) : Nat → Body := fun i => if i = j then f else F i
theorem upd_same (F : Nat → Body) (j : Nat) (f : Body) : upd F j f j = f := by simp [upd]
theorem upd_other (F : Nat → Body) {i j : Nat} (f : Body) (h : i ≠ j) : upd F j f i = F i := by simp [upd, h]

/-- One body more, behind the bodies that were there. -/
theorem Sep.next {b j M : Nat} {F : Nat → Body} {l : List Pc} {f : Body} (h : Sep b j F l) (h1 : ∀ i, i < j → ∀ x, (F i).1 = some x → 0 < (pc l i).zs.length → x.block < M)
    (h2 : ∀ x, f.1 = some x → 0 < (pc l j).zs.length → M ≤ x.block) (h3 : ∀ x, f.1 = some x → 0 < (pc l j).zs.length → x.block ≠ b) : Sep b (j + 1) (upd F j f) l := by
  refine ⟨fun i hi x hx hp => ?_, fun i k hi hk hne x y hx hy hpx hpy => ?_⟩
  · by_cases he : i = j
    · subst he; rw [upd_same] at hx; exact h3 x hx hp
    · rw [upd_other _ _ he] at hx; exact h.1 i (by omega) x hx hp
  · by_cases he : i = j
    · subst he
      have hk' : k ≠ i := fun e => hne e.symm
      rw [upd_same] at hx
      rw [upd_other _ _ hk'] at hy
      have a1 := h1 k (by omega) y hy hpy
      have a2 := h2 x hx hpx
      omega
    · rw [upd_other _ _ he] at hx
      by_cases he2 : k = j
      · subst he2
        rw [upd_same] at hy
        have a1 := h1 i (by omega) x hx hpx
        have a2 := h2 y hy hpy
        omega
      · rw [upd_other _ _ he2] at hy
        exact h.2 i k (by omega) (by omega) hne x y hx hy hpx hpy

/-- The three cells of a piece are written. -/
def put3 (w : World) (b o : Nat) (P : Pc) (A : Option Addr) (m c : Nat) : World :=
  ((w.setCell ⟨b, o, none⟩ (.int .i64 P.f)).setCell ⟨b, o + 1, none⟩ (.int .i64 P.m)).setCell ⟨b, o + 2, none⟩ (.slice A m c)
theorem put3_frozen (w : World) (b o : Nat) (P : Pc) (A : Option Addr) (m c : Nat) (x : Addr) : (put3 w b o P A m c).frozen? x = w.frozen? x := by
  unfold put3; simp only [World.frozen?_setCell]
theorem put3_block (w : World) (b o : Nat) (P : Pc) (A : Option Addr) (m c : Nat) (k : Nat) (h : k ≠ b) : (put3 w b o P A m c).heap[k]? = w.heap[k]? := by
  unfold put3
  rw [Below.heap_setCell _ _ _ _ h, Below.heap_setCell _ _ _ _ h, Below.heap_setCell _ _ _ _ h]
theorem put3_size (w : World) (b o : Nat) (P : Pc) (A : Option Addr) (m c : Nat) : (put3 w b o P A m c).heap.size = w.heap.size := by
  unfold put3; simp [World.setCell]
theorem put3_below {B : Nat} {w0 w : World} (h : Below B w0 w) (b o : Nat) (P : Pc) (A : Option Addr) (m c : Nat) (hb : B ≤ b) : Below B w0 (put3 w b o P A m c) := by
  unfold put3
  exact ((h.setCell hb _).setCell hb _).setCell hb _
theorem put3_zone {lo hi : Nat} {w0 w : World} (h : Zone lo hi w0 w) (b o : Nat) (P : Pc) (A : Option Addr) (m c : Nat) (hb : lo ≤ b ∧ b < hi) : Zone lo hi w0 (put3 w b o P A m c) := by
  unfold put3
  exact ((h.setCell hb _).setCell hb _).setCell hb _
theorem cell_set_ne {w : World} {b o o' : Nat} (v : Value) (h : o ≠ o') : (w.setCell ⟨b, o, none⟩ v).cell? ⟨b, o', none⟩ = w.cell? ⟨b, o', none⟩ :=
  World.cell?_setCell_other _ _ _ _ (by intro e; injection e with _ e _; omega)
theorem put3_other (w : World) (b o : Nat) (P : Pc) (A : Option Addr) (m c x : Nat) (h : x < o ∨ o + 3 ≤ x) : (put3 w b o P A m c).cell? ⟨b, x, none⟩ = w.cell? ⟨b, x, none⟩ := by
  unfold put3
  rw [cell_set_ne _ (by omega), cell_set_ne _ (by omega), cell_set_ne _ (by omega)]
theorem put3_cells (w : World) (b o : Nat) (P : Pc) (A : Option Addr) (c : Nat) (h : ∀ x, x < 3 → ∃ u, w.cell? ⟨b, o + x, none⟩ = some u) : Cells3 (put3 w b o P A P.zs.length c) b o P A c := by
  obtain ⟨u0, h0⟩ := h 0 (by omega)
  obtain ⟨u1, h1⟩ := h 1 (by omega)
  obtain ⟨u2, h2⟩ := h 2 (by omega)
  rw [Nat.add_zero] at h0
  unfold put3
  refine ⟨?_, ?_, ?_⟩
  · rw [cell_set_ne _ (by omega), cell_set_ne _ (by omega), World.cell?_setCell_same _ _ _ h0]
  · rw [cell_set_ne _ (by omega), World.cell?_setCell_same _ _ _ (by rw [cell_set_ne _ (by omega)]; exact h1)]
  · rw [World.cell?_setCell_same _ _ _ (by rw [cell_set_ne _ (by omega), cell_set_ne _ (by omega)]; exact h2)]

/-- A slice of n pieces in block b, of which the first j are filled. -/
structure Filled (b n : Nat) (l : List Pc) (j : Nat) (w : World) : Prop where
  lt : b < w.heap.size
  held : ∃ F, (∀ i, i < j → Held b w.heap.size w b (i * 3) (pc l i) (F i)) ∧ Sep b j F l
  rest : ∀ x, x < n * 3 → (∃ u, w.cell? ⟨b, x, none⟩ = some u) ∧ w.frozen? ⟨b, x, none⟩ = false
theorem Filled.below {b n j : Nat} {l : List Pc} {w w' : World} (h : Filled b n l j w) (hb : Below w.heap.size w w') : Filled b n l j w' := by
  obtain ⟨F, h1, h2⟩ := h.held
  have e := hb.block b h.lt
  refine ⟨Nat.lt_of_lt_of_le h.lt hb.size, ⟨F, fun i hi => ((h1 i hi).keep (Nat.le_refl _) h.lt (fun k hk _ _ => hb.block k hk)).more (Nat.le_refl _) hb.size, h2⟩, fun x hx => ?_⟩
  rw [cell_of_heap e, frozen_of_heap e]
  exact h.rest x hx
theorem own_block {k : IntKind} {lo hi n : Nat} {w : World} {a : Option Addr} {zs : List Int} (h : Own k lo hi w a n zs) (x : Addr) (hx : a = some x) (hn : 0 < n) : lo ≤ x.block ∧ x.block < hi := by
  obtain ⟨b, off, h1, h2, h3, _⟩ := h.here hn
  rw [h1] at hx
  injection hx with hx
  subst hx
  exact ⟨h2, h3⟩
theorem Filled.next {b n j c : Nat} {l : List Pc} {w w1 : World} {A : Option Addr} (h : Filled b n l j w) (hb : Below w.heap.size w w1) (ho : Own .i64 w.heap.size w1.heap.size w1 A (pc l j).zs.length (pc l j).zs) (hc : (pc l j).zs.length ≤ c) (hm : c ≤ maxLen) (hj : j < n) :
    Filled b n l (j + 1) (put3 w1 b (j * 3) (pc l j) A (pc l j).zs.length c) := by
  have h' := h.below hb
  obtain ⟨F, h1, h2⟩ := h.held
  have hlt := h.lt
  have hsz := hb.size
  have hout : ∀ k, k ≠ b → (put3 w1 b (j * 3) (pc l j) A (pc l j).zs.length c).heap[k]? = w1.heap[k]? := fun k hk => put3_block _ _ _ _ _ _ _ k hk
  have hbody : ∀ (i : Nat) (f : Body) (lo hi : Nat), (∀ x, f.1 = some x → 0 < (pc l i).zs.length → x.block ≠ b) → Own .i64 lo hi w1 f.1 (pc l i).zs.length (pc l i).zs → Own .i64 lo hi (put3 w1 b (j * 3) (pc l j) A (pc l j).zs.length c) f.1 (pc l i).zs.length (pc l i).zs := by
    intro i f lo hi hne hO
    refine ⟨hO.len, hO.wf, fun hp => ?_⟩
    obtain ⟨g, off, e1, e2, e3, e4⟩ := hO.here hp
    refine ⟨g, off, e1, e2, e3, fun t ht => ?_⟩
    have e := hout g (hne _ e1 hp)
    rw [cell_of_heap e, frozen_of_heap e]
    exact e4 t ht
  refine ⟨by rw [put3_size]; exact h'.lt, ⟨upd F j (A, c), fun i hi => ?_, h2.next (M := w.heap.size) (fun i hi x hx hp => (own_block (h1 i hi).body x hx hp).2) (fun x hx hp => (own_block ho x hx hp).1) (fun x hx hp => by have := (own_block ho x hx hp).1; omega)⟩, fun x hx => ?_⟩
  · rw [put3_size]
    by_cases he : i = j
    · subst he
      rw [upd_same]
      exact ⟨put3_cells _ _ _ _ _ _ (fun x hx => (h'.rest _ (by omega)).1), fun x hx => by rw [put3_frozen]; exact (h'.rest _ (by omega)).2,
        hbody i (A, c) b _ (fun x hx hp => by have := (own_block ho x hx hp).1; omega) (ho.more (by omega) (Nat.le_refl _)), hc, hm⟩
    · have hi' : i < j := by omega
      rw [upd_other _ _ he]
      have q := ((h1 i hi').keep (Nat.le_refl _) hlt (fun k hk _ _ => hb.block k hk))
      obtain ⟨c0, c1, c2⟩ := q.cells
      refine ⟨⟨?_, ?_, ?_⟩, fun x hx => by rw [put3_frozen]; exact q.free x hx, hbody i (F i) b _ (fun x hx hp => h2.1 i hi' x hx hp) (q.body.more (Nat.le_refl _) hsz), q.le, q.max⟩
      all_goals rw [put3_other _ _ _ _ _ _ _ _ (by omega)]; assumption
  · rw [put3_frozen]
    refine ⟨?_, (h'.rest x hx).2⟩
    by_cases hin : x < j * 3 ∨ j * 3 + 3 ≤ x
    · rw [put3_other _ _ _ _ _ _ _ _ hin]; exact (h'.rest x hx).1
    · obtain ⟨c0, c1, c2⟩ := put3_cells w1 b (j * 3) (pc l j) A c (fun y hy => (h'.rest _ (by omega)).1)
      have hx' : x = j * 3 ∨ x = j * 3 + 1 ∨ x = j * 3 + 2 := by omega
      rcases hx' with rfl | rfl | rfl
      · exact ⟨_, c0⟩
      · exact ⟨_, c1⟩
      · exact ⟨_, c2⟩
theorem Filled.own {b n : Nat} {l : List Pc} {w : World} (h : Filled b n l n w) (hl : l.length = n) (hw : ∀ P ∈ l, P.Wf) : COwn b w.heap.size w (some ⟨b, 0, none⟩) n l := by
  obtain ⟨F, h1, h2⟩ := h.held
  exact ⟨hl, hw, fun _ => ⟨b, 0, F, rfl, Nat.le_refl _, h.lt, fun i hi => by rw [Nat.zero_add]; exact h1 i hi, h2⟩⟩

/-- The cells of a list of pieces. -/
def flat1 (P : Pc) (f : Body) : List Value := [.int .i64 P.f, .int .i64 P.m, .slice f.1 P.zs.length f.2]
def flat : List Pc → List Body → List Value
  | P :: l, f :: G => flat1 P f ++ flat l G
  | _, _ => []
theorem flat_length : ∀ (l : List Pc) (G : List Body), G.length = l.length → (flat l G).length = l.length * 3
  | [], [], _ => rfl
  | [], _ :: _, h => by simp at h
  | _ :: _, [], h => by simp at h
  | P :: l, f :: G, h => by simp only [flat, List.length_append, flat_length l G (by simpa using h), List.length_cons]; simp [flat1]; omega
theorem flat_append : ∀ (l l2 : List Pc) (G G2 : List Body), G.length = l.length → flat (l ++ l2) (G ++ G2) = flat l G ++ flat l2 G2
  | [], _, [], _, _ => rfl
  | [], _, _ :: _, _, h => by simp at h
  | _ :: _, _, [], _, h => by simp at h
  | P :: l, l2, f :: G, G2, h => by simp only [List.cons_append, flat, flat_append l l2 G G2 (by simpa using h), List.append_assoc]
theorem flat_take : ∀ (l : List Pc) (G : List Body) (k : Nat), G.length = l.length → (flat l G).take (k * 3) = flat (l.take k) (G.take k)
  | [], [], k, _ => by simp [flat]
  | [], _ :: _, _, h => by simp at h
  | _ :: _, [], _, h => by simp at h
  | P :: l, f :: G, 0, h => by simp [flat]
  | P :: l, f :: G, k + 1, h => by
    have e : (k + 1) * 3 = k * 3 + 1 + 1 + 1 := by omega
    simp only [List.take_succ_cons, flat, flat1, List.cons_append, List.nil_append]
    rw [e]
    simp only [List.take_succ_cons, flat_take l G k (by simpa using h)]
theorem flat_at : ∀ (l : List Pc) (G : List Body) (i x : Nat), G.length = l.length → i < l.length → x < 3 → (flat l G)[i * 3 + x]? = (flat1 (pc l i) (G.getD i noBody))[x]?
  | [], _, _, _, _, h, _ => by simp at h
  | _ :: _, [], _, _, h, _, _ => by simp at h
  | P :: l, f :: G, 0, x, h, _, hx => by
    simp only [flat, Nat.zero_mul, Nat.zero_add]
    rw [List.getElem?_append_left (by simp [flat1]; omega)]
    simp [pc]
  | P :: l, f :: G, i + 1, x, h, hi, hx => by
    simp only [flat]
    rw [List.getElem?_append_right (by simp [flat1]; omega), show (i + 1) * 3 + x - (flat1 P f).length = i * 3 + x by simp [flat1]; omega, flat_at l G i x (by simpa using h) (by simpa using hi) hx]
    simp [pc]
theorem flat_one : ∀ (l : List Pc) (G : List Body), ∀ u ∈ flat l G, u.oneCell' = true
  | [], _, u, h => by simp [flat] at h
  | _ :: _, [], u, h => by simp [flat] at h
  | P :: l, f :: G, u, h => by
    simp only [flat, List.mem_append] at h
    rcases h with h | h
    · simp only [flat1, List.mem_cons, List.not_mem_nil, or_false] at h
      rcases h with rfl | rfl | rfl <;> rfl
    · exact flat_one l G u h
/-- Cells that read as the pieces of a list, in a row. -/
theorem flat_cells {w : World} {b off n : Nat} {l : List Pc} {G : List Body} (hG : G.length = l.length) (hl : l.length = n) (h : ∀ i, i < n → Cells3 w b (off + i * 3) (pc l i) (G.getD i noBody).1 (G.getD i noBody).2) :
    ∀ j u, (flat l G)[j]? = some u → w.cell? ((⟨b, off, none⟩ : Addr).add j) = some u := by
  intro j u hu
  have hj : j < n * 3 := by have := (List.getElem?_eq_some_iff.1 hu).1; rw [flat_length l G hG, hl] at this; exact this
  rw [add_pl]
  obtain ⟨c0, c1, c2⟩ := h (j / 3) (by omega)
  rw [show j = j / 3 * 3 + j % 3 by omega, flat_at l G (j / 3) (j % 3) hG (by omega) (by omega)] at hu
  have hx : j % 3 = 0 ∨ j % 3 = 1 ∨ j % 3 = 2 := by omega
  rw [show off + j = off + j / 3 * 3 + j % 3 by omega]
  rcases hx with e | e | e <;> rw [e] at hu ⊢ <;> simp only [flat1, List.getElem?_cons_zero, List.getElem?_cons_succ, Option.some.injEq] at hu <;> subst hu <;> first | exact c0 | exact c1 | exact c2

/-- A list of pieces that a call builds: the cells are its own, the bodies lie in blocks of their own. -/
structure CBuf (T : TypeId) (base hi : Nat) (w : World) (v : Value) (n : Nat) (l : List Pc) (G : List Body) : Prop where
  len : l.length = n
  lenG : G.length = l.length
  row : w.ownsRow base T 3 v n (flat l G)
  lt : ∀ b, v.ownBlock = some b → b < hi
  wf : ∀ P ∈ l, P.Wf
  body : ∀ i, i < n → Own .i64 base hi w (G.getD i noBody).1 (pc l i).zs.length (pc l i).zs ∧ (pc l i).zs.length ≤ (G.getD i noBody).2 ∧ (G.getD i noBody).2 ≤ maxLen
  out : ∀ i, i < n → ∀ x, (G.getD i noBody).1 = some x → 0 < (pc l i).zs.length → v.ownBlock ≠ some x.block
  sep : ∀ i j, i < n → j < n → i ≠ j → ∀ x y, (G.getD i noBody).1 = some x → (G.getD j noBody).1 = some y → 0 < (pc l i).zs.length → 0 < (pc l j).zs.length → x.block ≠ y.block
def CBuf' (T : TypeId) (base hi : Nat) (w : World) (v : Value) (n : Nat) (l : List Pc) : Prop := ∃ G, CBuf T base hi w v n l G

section
variable {T : TypeId} {base hi n : Nat} {w w' : World} {v : Value} {l : List Pc} {G : List Body}
theorem CBuf.nil (T : TypeId) (base hi : Nat) (w : World) : CBuf T base hi w (.slice none 0 0) 0 [] [] :=
  ⟨rfl, rfl, World.ownsRow_nil _ _ _ _, fun b h => by simp [Value.ownBlock] at h, by simp, fun _ h => absurd h (by omega), fun _ h => absurd h (by omega), fun _ _ h => absurd h (by omega)⟩
theorem CBuf.made (T : TypeId) (base : Nat) (w : World) (hb : base ≤ w.heap.size) : CBuf T base (w.heap.size + 1) (w.alloc (.cells #[] T)) (.slice (some ⟨w.heap.size, 0, none⟩) 0 0) 0 [] [] :=
  ⟨rfl, rfl, by simpa [flat] using World.ownsRow_lit (e := T) (base := base) (size := 3) w #[] 0 hb (by simp) rfl, fun b h => by simp [Value.ownBlock] at h; omega, by simp, fun _ h => absurd h (by omega), fun _ h => absurd h (by omega), fun _ _ h => absurd h (by omega)⟩
theorem CBuf.keep (h : CBuf T base hi w v n l G) (hk : ∀ i, i < w.heap.size → base ≤ i → i < hi → w'.heap[i]? = w.heap[i]?) : CBuf T base hi w' v n l G := by
  refine ⟨h.len, h.lenG, ⟨h.row.1, ?_⟩, h.lt, h.wf, fun i hi' => ⟨(h.body i hi').1.keep hk, (h.body i hi').2⟩, h.out, h.sep⟩
  rcases h.row.2 with hn | ⟨g, cap, cur, rfl, hb, hgg, rest⟩
  · exact .inl hn
  · refine .inr ⟨g, cap, cur, rfl, hb, ?_, rest⟩
    rw [hk g (Array.getElem?_eq_some_iff.1 hgg).1 hb (h.lt g rfl)]
    exact hgg
theorem CBuf.under {B : Nat} (h : CBuf T base hi w v n l G) (hb : Below B w w') (hB : hi ≤ B) : CBuf T base hi w' v n l G := h.keep fun i _ _ h2 => hb.block i (by omega)
theorem CBuf.below (h : CBuf T base hi w v n l G) (hb : Below w.heap.size w w') : CBuf T base hi w' v n l G := h.keep fun i h0 _ _ => hb.block i h0
theorem CBuf.zone {lo' hi' : Nat} (h : CBuf T base hi w v n l G) (hz : Zone lo' hi' w w') (hd : hi ≤ lo' ∨ hi' ≤ base) : CBuf T base hi w' v n l G := h.keep fun i h0 h1 h2 => hz.block i h0 (by omega)
theorem CBuf.more {hi' : Nat} (h : CBuf T base hi w v n l G) (h2 : hi ≤ hi') : CBuf T base hi' w v n l G :=
  ⟨h.len, h.lenG, h.row, fun b hb => Nat.lt_of_lt_of_le (h.lt b hb) h2, h.wf, fun i hi' => ⟨(h.body i hi').1.more (Nat.le_refl _) h2, (h.body i hi').2⟩, h.out, h.sep⟩
theorem CBuf.down {base' : Nat} (h : CBuf T base hi w v n l G) (hle : base' ≤ base) : CBuf T base' hi w v n l G :=
  ⟨h.len, h.lenG, ⟨h.row.1, h.row.2.imp id (fun ⟨g, cap, cur, hv, hb, rest⟩ => ⟨g, cap, cur, hv, Nat.le_trans hle hb, rest⟩)⟩, h.lt, h.wf, fun i hi' => ⟨(h.body i hi').1.more hle (Nat.le_refl _), (h.body i hi').2⟩, h.out, h.sep⟩
theorem CBuf.cells (h : CBuf T base hi w v n l G) {g c : Nat} (hv : v = .slice (some ⟨g, 0, none⟩) n c) : ∀ i, i < n → Cells3 w g (i * 3) (pc l i) (G.getD i noBody).1 (G.getD i noBody).2 := by
  subst hv
  intro i hi
  have hl := h.len
  have key : ∀ x, x < 3 → w.cell? ⟨g, i * 3 + x, none⟩ = (flat1 (pc l i) (G.getD i noBody))[x]? := fun x hx => by
    rw [h.row.cellAt _ (by omega), flat_at l G i x h.lenG (by omega) hx]
  exact ⟨key 0 (by omega), key 1 (by omega), key 2 (by omega)⟩
theorem CBuf.shape (h : CBuf T base hi w v n l G) : ∃ a c, v = .slice a n c ∧ n ≤ c ∧ c ≤ maxLen ∧ COwn base hi w a n l := by
  rcases h.row.2 with ⟨rfl, rfl⟩ | ⟨g, cap, cur, rfl, hb, hg, hnc, hcm, hcs, _⟩
  · exact ⟨none, 0, rfl, Nat.le_refl _, Nat.zero_le _, h.len, h.wf, fun h0 => absurd h0 (by omega)⟩
  · refine ⟨_, cap, rfl, hnc, hcm, h.len, h.wf, fun _ => ⟨g, 0, fun i => G.getD i noBody, rfl, hb, h.lt g rfl, fun i hi => ?_, ?_⟩⟩
    · rw [Nat.zero_add]
      exact ⟨h.cells rfl i hi, fun x hx => h.row.frozenAt _, (h.body i hi).1, (h.body i hi).2.1, (h.body i hi).2.2⟩
    · exact ⟨fun i hi x hx hp he => h.out i hi x hx hp (by simp [Value.ownBlock, he]), h.sep⟩
theorem CBuf.slice (h : CBuf T base hi w v n l G) : ∃ a c, v = .slice a n c := by
  obtain ⟨a, c, e, _⟩ := h.shape
  exact ⟨a, c, e⟩
theorem CBuf.take {A : Option Addr} {c : Nat} (h : CBuf T base hi w (.slice A n c) n l G) {k : Nat} (hk : k ≤ n) : CBuf T base hi w (.slice A k c) k (l.take k) (G.take k) := by
  have hl := h.len
  have hG := h.lenG
  have hp : ∀ i, i < k → pc (l.take k) i = pc l i := fun i hi => by simp [pc, List.getD_eq_getElem?_getD, List.getElem?_take_of_lt hi]
  have hq : ∀ i, i < k → (G.take k).getD i noBody = G.getD i noBody := fun i hi => by simp [List.getD_eq_getElem?_getD, List.getElem?_take_of_lt hi]
  refine ⟨by simp; omega, by simp; omega, ⟨by rw [flat_length _ _ (by simp; omega)]; simp; omega, ?_⟩, fun b hb => h.lt b (by cases A with | none => cases hb | some x => exact hb), fun P hP => h.wf P (List.mem_of_mem_take hP), fun i hi => ?_, fun i hi x hx hpx => ?_, fun i j hi hj hne x y hx hy hpx hpy => ?_⟩
  · rcases h.row.2 with ⟨e, rfl⟩ | ⟨g, cap, cur, e, hb, hg, hnc, hcm, hcs, ht⟩
    · injection e with e1 _ e3
      subst e1 e3
      left
      rw [show k = 0 by omega]
      exact ⟨rfl, rfl⟩
    · injection e with e1 _ e3
      subst e1 e3
      refine .inr ⟨g, c, cur, rfl, hb, hg, by omega, hcm, hcs, ?_⟩
      rw [← flat_take l G k hG, ← ht, List.take_take]
      congr 1
      omega
  · rw [hp i hi, hq i hi]; exact h.body i (by omega)
  · rw [hp i hi] at hpx; rw [hq i hi] at hx
    have := h.out i (by omega) x hx hpx
    cases A with
    | none => simp [Value.ownBlock]
    | some y => exact this
  · rw [hp i hi] at hpx; rw [hq i hi] at hx; rw [hp j hj] at hpy; rw [hq j hj] at hy
    exact h.sep i j (by omega) (by omega) hne x y hx hy hpx hpy
theorem pc_left {l l2 : List Pc} {i : Nat} (h : i < l.length) : pc (l ++ l2) i = pc l i := by simp [pc, List.getD_eq_getElem?_getD, List.getElem?_append_left h]
theorem pc_right {l l2 : List Pc} {i : Nat} (h : l.length ≤ i) : pc (l ++ l2) i = pc l2 (i - l.length) := by simp [pc, List.getD_eq_getElem?_getD, List.getElem?_append_right h]
theorem body_left {G G2 : List Body} {i : Nat} (h : i < G.length) : (G ++ G2).getD i noBody = G.getD i noBody := by simp [List.getD_eq_getElem?_getD, List.getElem?_append_left h]
theorem body_right {G G2 : List Body} {i : Nat} (h : G.length ≤ i) : (G ++ G2).getD i noBody = G2.getD (i - G.length) noBody := by simp [List.getD_eq_getElem?_getD, List.getElem?_append_right h]
/-- What an append makes of it: pieces whose bodies lie behind what was there. -/
theorem CBuf.join {M m : Nat} {l2 : List Pc} {G2 : List Body} {v' : Value} (h : CBuf T base M w v n l G) (hbM : base ≤ M) (hr : w'.ownsRow base T 3 v' (n + m) (flat (l ++ l2) (G ++ G2))) (hg : w.grownBy w' v.ownBlock) (hat : v'.ownBlock = v.ownBlock ∨ v'.ownBlock = some w.heap.size) (hM : M ≤ w.heap.size)
    (hl2 : l2.length = m) (hG2 : G2.length = l2.length) (hwf : ∀ P ∈ l2, P.Wf) (hb2 : ∀ i, i < m → Own .i64 M w.heap.size w (G2.getD i noBody).1 (pc l2 i).zs.length (pc l2 i).zs ∧ (pc l2 i).zs.length ≤ (G2.getD i noBody).2 ∧ (G2.getD i noBody).2 ≤ maxLen)
    (hs2 : ∀ i j, i < m → j < m → i ≠ j → ∀ x y, (G2.getD i noBody).1 = some x → (G2.getD j noBody).1 = some y → 0 < (pc l2 i).zs.length → 0 < (pc l2 j).zs.length → x.block ≠ y.block) :
    CBuf T base w'.heap.size w' v' (n + m) (l ++ l2) (G ++ G2) := by
  have hl := h.len
  have hG := h.lenG
  have hsz := hg.size
  have hlt : ∀ b, v'.ownBlock = some b → b < w'.heap.size := fun b hb => (hr.lt b hb).2
  have hkeep : ∀ (lo hi : Nat) (a : Option Addr) (k : Nat) (zs : List Int), (∀ x, a = some x → 0 < k → v.ownBlock ≠ some x.block) → Own .i64 lo hi w a k zs → hi ≤ w.heap.size → Own .i64 lo w'.heap.size w' a k zs := by
    intro lo hi a k zs hne hO hh
    refine ⟨hO.len, hO.wf, fun hp => ?_⟩
    obtain ⟨g, off, e1, e2, e3, e4⟩ := hO.here hp
    refine ⟨g, off, e1, e2, by omega, fun t ht => ?_⟩
    have e := hg.block g (by omega) (fun e => hne _ e1 hp e.symm)
    rw [cell_of_heap e, frozen_of_heap e]
    exact e4 t ht
  refine ⟨by simp; omega, by simp; omega, hr, hlt, fun P hP => by
    rcases List.mem_append.1 hP with q | q
    · exact h.wf P q
    · exact hwf P q, fun i hi => ?_, fun i hi x hx hp => ?_, fun i j hi hj hne x y hx hy hpx hpy => ?_⟩
  · by_cases hin : i < n
    · rw [pc_left (by omega), body_left (by omega)]
      exact ⟨hkeep _ _ _ _ _ (fun x hx hp => h.out i hin x hx hp) (h.body i hin).1 hM, (h.body i hin).2⟩
    · rw [pc_right (by omega), body_right (by omega), hG, hl]
      have q := hb2 (i - n) (by omega)
      exact ⟨(hkeep _ _ _ _ _ (fun x hx hp e => by have a1 := h.lt _ e; have a2 := (own_block q.1 x hx hp).1; omega) q.1 (Nat.le_refl _)).more hbM (Nat.le_refl _), q.2⟩
  · have hxb : x.block < w.heap.size ∧ v.ownBlock ≠ some x.block := by
      by_cases hin : i < n
      · rw [pc_left (by omega)] at hp; rw [body_left (by omega)] at hx
        have a1 := (own_block (h.body i hin).1 x hx hp).2
        exact ⟨by omega, h.out i hin x hx hp⟩
      · rw [pc_right (by omega), hl] at hp; rw [body_right (by omega), hG, hl] at hx
        have q := hb2 (i - n) (by omega)
        have a2 := own_block q.1 x hx hp
        exact ⟨a2.2, fun e => by have a1 := h.lt _ e; omega⟩
    rcases hat with e | e
    · rw [e]; exact hxb.2
    · rw [e]; intro e2; injection e2 with e2; omega
  · by_cases hin : i < n
    · rw [pc_left (by omega)] at hpx; rw [body_left (by omega)] at hx
      by_cases hjn : j < n
      · rw [pc_left (by omega)] at hpy; rw [body_left (by omega)] at hy
        exact h.sep i j hin hjn hne x y hx hy hpx hpy
      · rw [pc_right (by omega), hl] at hpy; rw [body_right (by omega), hG, hl] at hy
        have a1 := own_block (h.body i hin).1 x hx hpx
        have a2 := own_block (hb2 (j - n) (by omega)).1 y hy hpy
        omega
    · rw [pc_right (by omega), hl] at hpx; rw [body_right (by omega), hG, hl] at hx
      by_cases hjn : j < n
      · rw [pc_left (by omega)] at hpy; rw [body_left (by omega)] at hy
        have a1 := own_block (h.body j hjn).1 y hy hpy
        have a2 := own_block (hb2 (i - n) (by omega)).1 x hx hpx
        omega
      · rw [pc_right (by omega), hl] at hpy; rw [body_right (by omega), hG, hl] at hy
        exact hs2 (i - n) (j - n) (by omega) (by omega) (by omega) x y hx hy hpx hpy
end
end Go.Proofs.Ytkjglmfnlpapbaa.Pieces
