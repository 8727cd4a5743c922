/-
  Words for rows of integers in memory: a slice that reads as a list of integers inside a zone of blocks; what keeps it so. A block of seven cells of the call's own: its cells, what a write makes of it. A block of five cells of the call's own: its cells, what a write makes of it. Words for a slice of parts in memory: seven cells a part, each with a body of its own; what keeps them so. Words for a slice of parts that a call builds: its row of cells, the bodies behind it; what an append, a cut, a write makes of it.
  Conditions: as each theorem states them.
-/
import Derived.Below
import Derived.OneCell
import Derived.Laws.Rows
import Derived.Laws.OwnMore
import Derived.OwnWalk
import Derived.Deep.Draws
import Derived.Lib.Hide
import Derived.Laws.AppendOwnNone
import Derived.Laws.BytesArg
import Derived.OpenShut
import Derived.Maps.AppendAt
namespace Go.Proofs.YtedjclnojocjkaaGreatDoor.Mem
open Go Go.RowKit

/-- The slice '.slice a n _' reads as the integers zs of kind k; its cells lie in blocks from lo on and below hi. -/
structure Row (k : IntKind) (lo hi : Nat) (w : World) (a : Option Addr) (n : Nat) (zs : List Int) : Prop where
  len : zs.length = n
  wf : ∀ z ∈ zs, (Lit.int k z).wf = true
  here : 0 < n → ∃ b off, a = some ⟨b, off, none⟩ ∧ lo ≤ b ∧ b < hi ∧ ∀ j, j < n → w.cell? ⟨b, off + j, none⟩ = some (.int k (zs.getD j 0))

/-- The same of a row that may be written. -/
structure Own (k : IntKind) (lo hi : Nat) (w : World) (a : Option Addr) (n : Nat) (zs : List Int) : Prop where
  len : zs.length = n
  wf : ∀ z ∈ zs, (Lit.int k z).wf = true
  here : 0 < n → ∃ b off, a = some ⟨b, off, none⟩ ∧ lo ≤ b ∧ b < hi ∧ ∀ j, j < n → w.cell? ⟨b, off + j, none⟩ = some (.int k (zs.getD j 0)) ∧ w.frozen? ⟨b, off + j, none⟩ = false

/-- Of the blocks that were there, those from lo on and below hi alone may have changed. -/
structure Zone (lo hi : Nat) (w w' : World) : Prop where
  os : w'.os = w.os
  tape : w'.tape = w.tape
  output : w'.output = w.output
  size : w.heap.size ≤ w'.heap.size
  block : ∀ k, k < w.heap.size → (k < lo ∨ hi ≤ k) → w'.heap[k]? = w.heap[k]?

theorem cell_of_heap {w w' : World} {b o : Nat} (h : w'.heap[b]? = w.heap[b]?) : w'.cell? ⟨b, o, none⟩ = w.cell? ⟨b, o, none⟩ := by
  unfold World.cell?; simp only; rw [h]
theorem frozen_of_heap {w w' : World} {b o : Nat} (h : w'.heap[b]? = w.heap[b]?) : w'.frozen? ⟨b, o, none⟩ = w.frozen? ⟨b, o, none⟩ := by
  unfold World.frozen?; simp only; rw [h]
theorem cell_lt {w : World} {b o : Nat} {v : Value} (h : w.cell? ⟨b, o, none⟩ = some v) : b < w.heap.size := by
  unfold World.cell? at h
  simp only at h
  cases hx : w.heap[b]? with
  | none => rw [hx] at h; simp at h
  | some x => exact (Array.getElem?_eq_some_iff.1 hx).1

section
variable {k : IntKind} {lo hi B n : Nat} {w w' w1 w2 : World} {a : Option Addr} {zs : List Int}
theorem Own.row (h : Own k lo hi w a n zs) : Row k lo hi w a n zs :=
  ⟨h.len, h.wf, fun hn => by obtain ⟨b, off, h1, h2, h3, h4⟩ := h.here hn; exact ⟨b, off, h1, h2, h3, fun j hj => (h4 j hj).1⟩⟩
theorem Row.more {lo' hi' : Nat} (h : Row k lo hi w a n zs) (h1 : lo' ≤ lo) (h2 : hi ≤ hi') : Row k lo' hi' w a n zs :=
  ⟨h.len, h.wf, fun hn => by obtain ⟨b, off, a1, a2, a3, a4⟩ := h.here hn; exact ⟨b, off, a1, by omega, by omega, a4⟩⟩
theorem Own.more {lo' hi' : Nat} (h : Own k lo hi w a n zs) (h1 : lo' ≤ lo) (h2 : hi ≤ hi') : Own k lo' hi' w a n zs :=
  ⟨h.len, h.wf, fun hn => by obtain ⟨b, off, a1, a2, a3, a4⟩ := h.here hn; exact ⟨b, off, a1, by omega, by omega, a4⟩⟩
theorem Row.keep (h : Row k lo hi w a n zs) (hk : ∀ i, i < w.heap.size → lo ≤ i → i < hi → w'.heap[i]? = w.heap[i]?) : Row k lo hi w' a n zs :=
  ⟨h.len, h.wf, fun hn => by
    obtain ⟨b, off, a1, a2, a3, a4⟩ := h.here hn
    exact ⟨b, off, a1, a2, a3, fun j hj => by rw [cell_of_heap (hk b (cell_lt (a4 j hj)) a2 a3)]; exact a4 j hj⟩⟩
theorem Own.keep (h : Own k lo hi w a n zs) (hk : ∀ i, i < w.heap.size → lo ≤ i → i < hi → w'.heap[i]? = w.heap[i]?) : Own k lo hi w' a n zs :=
  ⟨h.len, h.wf, fun hn => by
    obtain ⟨b, off, a1, a2, a3, a4⟩ := h.here hn
    exact ⟨b, off, a1, a2, a3, fun j hj => by
      have e := hk b (cell_lt (a4 j hj).1) a2 a3
      rw [cell_of_heap e, frozen_of_heap e]; exact a4 j hj⟩⟩
theorem Row.below (h : Row k lo hi w a n zs) (hb : Below w.heap.size w w') : Row k lo hi w' a n zs := h.keep fun i hi _ _ => hb.block i hi
theorem Own.below (h : Own k lo hi w a n zs) (hb : Below w.heap.size w w') : Own k lo hi w' a n zs := h.keep fun i hi _ _ => hb.block i hi
theorem Row.under (h : Row k lo hi w a n zs) (hb : Below B w w') (hB : hi ≤ B) : Row k lo hi w' a n zs := h.keep fun i _ _ h2 => hb.block i (by omega)
theorem Own.under (h : Own k lo hi w a n zs) (hb : Below B w w') (hB : hi ≤ B) : Own k lo hi w' a n zs := h.keep fun i _ _ h2 => hb.block i (by omega)
theorem Row.zone {lo' hi' : Nat} (h : Row k lo hi w a n zs) (hz : Zone lo' hi' w w') (hd : hi ≤ lo' ∨ hi' ≤ lo) : Row k lo hi w' a n zs := h.keep fun i h0 h1 h2 => hz.block i h0 (by omega)
theorem Own.zone {lo' hi' : Nat} (h : Own k lo hi w a n zs) (hz : Zone lo' hi' w w') (hd : hi ≤ lo' ∨ hi' ≤ lo) : Own k lo hi w' a n zs := h.keep fun i h0 h1 h2 => hz.block i h0 (by omega)
theorem Row.drewN (h : Row k lo hi w a n zs) (m : Nat) : Row k lo hi (w.drewN m) a n zs := h.keep fun _ _ _ _ => rfl
theorem Own.drewN (h : Own k lo hi w a n zs) (m : Nat) : Own k lo hi (w.drewN m) a n zs := h.keep fun _ _ _ _ => rfl
theorem Row.nil (k : IntKind) (lo hi : Nat) (w : World) (a : Option Addr) : Row k lo hi w a 0 [] := ⟨rfl, by simp, fun h => absurd h (by omega)⟩
theorem Own.nil (k : IntKind) (lo hi : Nat) (w : World) (a : Option Addr) : Own k lo hi w a 0 [] := ⟨rfl, by simp, fun h => absurd h (by omega)⟩
theorem Row.cell (h : Row k lo hi w a n zs) {j : Nat} (hj : j < n) : ∃ b off, a = some ⟨b, off, none⟩ ∧ lo ≤ b ∧ b < hi ∧ w.cell? ⟨b, off + j, none⟩ = some (.int k (zs.getD j 0)) := by
  obtain ⟨b, off, a1, a2, a3, a4⟩ := h.here (by omega)
  exact ⟨b, off, a1, a2, a3, a4 j hj⟩
theorem Row.wf_at (h : Row k lo hi w a n zs) {j : Nat} (hj : j < n) : (Lit.int k (zs.getD j 0)).wf = true := by
  refine h.wf _ ?_
  have := h.len
  rw [List.getD_eq_getElem?_getD, List.getElem?_eq_getElem (by omega)]
  exact List.getElem_mem _
theorem getD_map_int (zs : List Int) (k : IntKind) (j : Nat) (hj : j < zs.length) : (zs.map (Value.int k))[j]? = some (.int k (zs.getD j 0)) := by
  rw [List.getElem?_map, List.getElem?_eq_getElem hj, List.getD_eq_getElem?_getD, List.getElem?_eq_getElem hj]; rfl

/-- A row of the call's own, as the library's append leaves it. -/
theorem Own.of_row {base e : Nat} {v : Value} (h : w.ownsRow base e 1 v n (zs.map (Value.int k))) (hwf : ∀ z ∈ zs, (Lit.int k z).wf = true) :
    ∃ a c, v = .slice a n c ∧ n ≤ c ∧ c ≤ maxLen ∧ Own k base w.heap.size w a n zs := by
  have hl : zs.length = n := by have := h.1; simpa using this
  rcases h.2 with ⟨rfl, rfl⟩ | ⟨g, cap, cur, rfl, hb, hg, hnc, hcm, hcs, _⟩
  · exact ⟨none, 0, rfl, Nat.le_refl _, Nat.zero_le _, ⟨hl, hwf, fun h => absurd h (by omega)⟩⟩
  · refine ⟨_, cap, rfl, hnc, hcm, ⟨hl, hwf, fun _ => ⟨g, 0, rfl, hb, (Array.getElem?_eq_some_iff.1 hg).1, fun j hj => ⟨?_, ?_⟩⟩⟩⟩
    · rw [Nat.zero_add, h.cellAt j (by omega), getD_map_int _ _ _ (by omega)]
    · exact h.frozenAt _
end

theorem Zone.refl (lo hi : Nat) (w : World) : Zone lo hi w w := ⟨rfl, rfl, rfl, Nat.le_refl _, fun _ _ _ => rfl⟩
theorem Zone.of_below {lo hi : Nat} {w w' : World} (h : Below w.heap.size w w') : Zone lo hi w w' := ⟨h.os, h.tape, h.output, h.size, fun k hk _ => h.block k hk⟩
theorem Zone.below {lo hi B : Nat} {w w' : World} (h : Zone lo hi w w') (hB : B ≤ lo) (hw : B ≤ w.heap.size) : Below B w w' :=
  ⟨h.os, h.tape, h.output, h.size, fun k hk => h.block k (by omega) (by omega)⟩
theorem Zone.trans {lo hi : Nat} {a b c : World} (h : Zone lo hi a b) (k : Zone lo hi b c) : Zone lo hi a c :=
  ⟨k.os.trans h.os, k.tape.trans h.tape, k.output.trans h.output, Nat.le_trans h.size k.size, fun i hi hp => (k.block i (Nat.lt_of_lt_of_le hi h.size) hp).trans (h.block i hi hp)⟩
theorem Zone.setCell {lo hi : Nat} {w w' : World} (h : Zone lo hi w w') {b o : Nat} (hb : lo ≤ b ∧ b < hi) (v : Value) : Zone lo hi w (w'.setCell ⟨b, o, none⟩ v) :=
  ⟨h.os, h.tape, h.output, by show w.heap.size ≤ (w'.heap.modify b _).size; rw [Array.size_modify]; exact h.size, fun k hk hp => (heap_setCell_other w' ⟨b, o, none⟩ k v (by show k ≠ b; omega)).trans (h.block k hk hp)⟩
theorem Zone.drewN {lo hi : Nat} {w w' : World} (h : Zone lo hi w w') (n : Nat) : Zone lo hi w (w'.drewN n) := ⟨h.os, h.tape, h.output, h.size, h.block⟩
theorem below_drewN {B : Nat} {a w : World} (h : Below B a w) (n : Nat) : Below B a (w.drewN n) := ⟨h.os, h.tape, h.output, h.size, h.block⟩

/-- What a mark leaves: k0, k0 + 1, .., each in the kind's range. -/
def marks (k : IntKind) (k0 n : Nat) : List Int := (List.range n).map fun i => k.wrap ((k0 + i : Nat) : Int)
theorem marks_len (k : IntKind) (k0 n : Nat) : (marks k k0 n).length = n := by simp [marks]
theorem marks_at (k : IntKind) (k0 n j : Nat) (hj : j < n) : (marks k k0 n).getD j 0 = k.wrap ((k0 + j : Nat) : Int) := by
  simp [marks, List.getD_eq_getElem?_getD, hj]
def half (k : IntKind) (k0 j : Nat) (zs : List Int) : List Int := marks k k0 j ++ zs.drop j
theorem half_len (k : IntKind) (k0 j : Nat) (zs : List Int) (h : j ≤ zs.length) : (half k k0 j zs).length = zs.length := by simp [half, marks_len]; omega

/-- A slice that came in, as the row of a law reads it. -/
theorem Row.of_came {k : IntKind} {w : World} {a : Option Addr} {len cap : Nat} {zs : List Int}
    (h : (a = none ∧ len = 0 ∧ cap = 0 ∧ zs = []) ∨
      ∃ x, a = some x ∧ len ≤ cap ∧ cap ≤ maxLen ∧ zs.length = cap ∧ (∀ i, i < zs.length → w.cell? (x.add i) = some (.int k (zs.getD i 0))) ∧ ∀ n ∈ zs, (Lit.int k n).wf = true) :
    Row k 0 w.heap.size w a len (zs.take len) := by
  rcases h with ⟨rfl, rfl, rfl, rfl⟩ | ⟨⟨b, off, spot⟩, rfl, hl, hm, hz, hcell, hwz⟩
  · exact Row.nil _ _ _ _ _
  · refine ⟨by simp; omega, fun z hz => hwz z (List.mem_of_mem_take hz), fun hn => ?_⟩
    have hspot : spot = none := by
      have h0 := hcell 0 (by omega)
      simpa [Addr.add] using World.cell?_spot h0
    subst hspot
    have h0 := hcell 0 (by omega)
    rw [show (⟨b, off, none⟩ : Addr).add 0 = ⟨b, off, none⟩ from rfl] at h0
    refine ⟨b, off, rfl, Nat.zero_le _, cell_lt h0, fun j hj => ?_⟩
    have h1 := hcell j (by omega)
    rw [show (⟨b, off, none⟩ : Addr).add j = ⟨b, off + j, none⟩ by unfold Addr.add; split <;> simp_all] at h1
    rw [h1, List.getD_eq_getElem?_getD, List.getD_eq_getElem?_getD, List.getElem?_take_of_lt hj]

/-- 'string(b)' of a row of bytes. -/
theorem Row.convert {P : Program} {lo hi : Nat} {w : World} {a : Option Addr} {n : Nat} {zs : List Int} (h : Row .u8 lo hi w a n zs) (c : Nat) (src e dst : TypeId)
    (hs : P.underlying src = some (.slice e)) (he : P.underlying e = some (.int .u8)) (hd : P.underlying dst = some .string) :
    (convert src dst (.slice a n c)).run P w = .ok (.string (strOfNums zs)) w := by
  rcases Nat.eq_zero_or_pos n with hn | hn
  · subst hn
    obtain rfl : zs = [] := List.eq_nil_of_length_eq_zero h.len
    rcases a with _ | ad
    · exact run_convert_bytes_nil w src e hs he 0 c dst hd
    · have hl : (loadCells ad 0).run P w = .ok (([] : List Int).map (Value.int .u8)).toArray w := by
        simpa using run_loadCells_list (P := P) w ad [] (fun j v hj => by simp at hj)
      rw [run_convert_bytes_string w src dst e _ 0 c hs he hd, run_bytesToString w _ 0 c [] hl]
      rfl
  · obtain ⟨b, o, rfl, _, _, hc⟩ := h.here hn
    exact run_convert_bytes_arg (P := P) w src e hs he b o n c zs h.len hc dst hd
theorem strOfNums_inj : ∀ {xs ys : List Int}, (∀ z ∈ xs, (Lit.int .u8 z).wf = true) → (∀ z ∈ ys, (Lit.int .u8 z).wf = true) → (strOfNums xs).data.toList = (strOfNums ys).data.toList → xs = ys := by
  intro xs
  induction xs with
  | nil => intro ys _ _ h; cases ys with
    | nil => rfl
    | cons y ys => simp [strOfNums] at h
  | cons x xs ih => intro ys hx hy h; cases ys with
    | nil => simp [strOfNums] at h
    | cons y ys =>
      rw [strOfNums_data, strOfNums_data] at h
      simp only [List.map_cons, List.cons.injEq] at h
      obtain ⟨h1, h2⟩ := h
      have bx := bounds_u8 (hx x (by simp))
      have byy := bounds_u8 (hy y (by simp))
      have h3 := congrArg UInt8.toNat h1
      simp only [UInt8.toNat_ofNat'] at h3
      have h4 : xs = ys := ih (ys := ys) (fun z hz => hx z (List.mem_cons_of_mem _ hz)) (fun z hz => hy z (List.mem_cons_of_mem _ hz)) (by rw [strOfNums_data, strOfNums_data]; exact h2)
      rw [h4]
      congr 1
      omega

/-- What a call hands back: a row of its own; with two numbers more. -/
def Slice3 (k : IntKind) (lo : Nat) (n : Nat) (zs : List Int) (q : Int) (b : Bool) (w : World) (e : Ending) (w' : World) : Prop :=
  ∃ a c, e = .returned (.tuple #[.slice a n c, .int .i64 q, .bool b]) ∧ Own k lo w'.heap.size w' a n zs ∧ n ≤ c ∧ c ≤ maxLen ∧ Below lo w w'
def Slice (k : IntKind) (lo : Nat) (n : Nat) (zs : List Int) (w : World) (e : Ending) (w' : World) : Prop :=
  ∃ a c, e = .returned (.slice a n c) ∧ Own k lo w'.heap.size w' a n zs ∧ n ≤ c ∧ c ≤ maxLen ∧ Below lo w w'

/-- A row of integers of the call's own, from block base on. -/
def OwnI (k : IntKind) (e : TypeId) (base : Nat) (w : World) (v : Value) (n : Nat) (zs : List Int) : Prop := w.ownsRow base e 1 v n (zs.map (Value.int k))

section
variable {k : IntKind} {e : TypeId} {base n : Nat} {w w' : World} {v : Value} {zs : List Int}
theorem OwnI.grown {row : World} (h : OwnI k e base w v n zs) (hg : w.grownBy row v.ownBlock) (hB : base ≤ w.heap.size) : Below base w row :=
  (Below.refl _ _).grown hg hB fun i hi => (World.ownsRow.lt h i hi).1
theorem OwnI.nil (k : IntKind) (e : TypeId) (base : Nat) (w : World) : OwnI k e base w (.slice none 0 0) 0 [] := World.ownsRow_nil _ _ _ _
theorem OwnI.lit (k : IntKind) (e : TypeId) {base : Nat} (w : World) (zs : List Int) (hb : base ≤ w.heap.size) (hm : zs.length ≤ maxLen) :
    OwnI k e base (w.alloc (.cells (zs.map (Value.int k)).toArray e)) (.slice (some ⟨w.heap.size, 0, none⟩) zs.length zs.length) zs.length zs := by
  have := World.ownsRow_lit (e := e) (base := base) (size := 1) w (zs.map (Value.int k)).toArray zs.length hb hm (by simp)
  simpa [OwnI] using this
theorem OwnI.made (k : IntKind) (e : TypeId) {base : Nat} (w : World) (hb : base ≤ w.heap.size) : OwnI k e base (w.alloc (.cells #[] e)) (.slice (some ⟨w.heap.size, 0, none⟩) 0 0) 0 [] :=
  OwnI.lit k e w [] hb (by simp)
theorem OwnI.len (h : OwnI k e base w v n zs) : zs.length = n := by have := h.1; simpa using this
theorem OwnI.alloc (h : OwnI k e base w v n zs) (o : Obj) : OwnI k e base (w.alloc o) v n zs := World.ownsRow.alloc h o
theorem OwnI.drewN (h : OwnI k e base w v n zs) (m : Nat) : OwnI k e base (w.drewN m) v n zs := h
theorem OwnI.below (h : OwnI k e base w v n zs) (hb : Below w.heap.size w w') : OwnI k e base w' v n zs :=
  World.ownsRow.kept h (row := none) ⟨hb.os, hb.tape, hb.output, hb.size, fun i hi _ => hb.block i hi⟩ (by cases hv : v.ownBlock <;> simp)
theorem OwnI.own (h : OwnI k e base w v n zs) (hwf : ∀ z ∈ zs, (Lit.int k z).wf = true) : ∃ a c, v = .slice a n c ∧ n ≤ c ∧ c ≤ maxLen ∧ Own k base w.heap.size w a n zs := Own.of_row h hwf

theorem add_pl (b o i : Nat) : (⟨b, o, none⟩ : Addr).add i = ⟨b, o + i, none⟩ := by unfold Addr.add; split <;> simp_all

theorem run_append_none {P : Program} (t ty : TypeId) (i : TypeInfo) (ht : P.underlying t = some (.slice e)) (hi : P.info? e = some i) (c : Nat) (h : OwnI k e base w v n zs) :
    (Builtin.append_ #[t, t] ty #[v, .slice none 0 c]).run P w = .ok v w := by
  rcases h.2 with ⟨rfl, rfl⟩ | ⟨g, cap, cur, rfl, _, _, hnc, _⟩
  · simp [Builtin.append_, run_underlying ht, sizeOf, typeInfo, hi, Builtin.lenOf, Builtin.firstCells]
  · simp [Builtin.append_, run_underlying ht, sizeOf, typeInfo, hi, Builtin.lenOf, Builtin.firstCells, hnc, storeCells]

/-- An append of any row of integers, nil or not, onto a row of the call's own. -/
theorem wpList_append_row {P : Program} {ops : Array Oper} {rest : List Oper} {o : Oper} {a : Act} {Q : Exit → Act → World → Prop} (hgd : o.guard = none) (s x : Operand) (t : TypeId)
    (ho : o.op = .call { callee := .builtin .append, args := #[s, x], argTypes := #[t, t] })
    (base e : Nat) (i : TypeInfo) (z : Value) (bytes : Nat) (ht : P.underlying t = some (.slice e)) (hi : P.info? e = some i) (hz : i.zero = some z)
    (hsize : i.size = 1) (hby : i.bytes = bytes) (hzs : z.cells.size = 1)
    (v : Value) (n : Nat) (xs : List Int) (hs : a.eval s = v) (hown : OwnI k e base w v n xs)
    (lo hi' : Nat) (A : Option Addr) (m c : Nat) (zs : List Int) (hx : a.eval x = .slice A m c) (hr : Row k lo hi' w A m zs)
    (h63 : n + m ≤ maxLen) (hbytes : (n + m) * bytes ≤ 140737488355328) (hbase : base ≤ w.heap.size)
    (h : ∀ v' w', OwnI k e base w' v' (n + m) (xs ++ zs) → Below base w w' → wpList P ops Q rest (a.put o.dst v') w') : wpList P ops Q (o :: rest) a w := by
  have hl := hr.len
  rcases A with _ | ad
  · have hm : m = 0 := by
      rcases Nat.eq_zero_or_pos m with h0 | h0
      · exact h0
      · obtain ⟨b, off, h, _⟩ := hr.here h0; cases h
    subst hm
    obtain rfl := List.eq_nil_of_length_eq_zero hl
    have hrun := run_append_none (P := P) t o.type i ht hi c hown
    refine wpList_plain hgd fun K hK => ?_
    unfold Oper.wp
    simp [execOp, ho, resolve, invoke, builtin, hs, hx, hrun, Result.andThen]
    exact hK _ _ (h v w (by simpa using hown) (Below.refl _ _))
  · refine wpList_append_own w hgd s x t ho base e i z 1 bytes ht hi hz hsize hby hzs (by omega) v n _ hs hown ad m c (zs.map (Value.int k)) hx (by simpa using hl) ?_ (ints_oneCell k zs) h63 hbytes hbase ?_
    · intro j u hu
      have hj : j < m := by
        have := (List.getElem?_eq_some_iff.1 hu).1
        simp at this; omega
      obtain ⟨b, off, hab, _, _, hc⟩ := hr.cell hj
      injection hab with hab
      subst hab
      rw [getD_map_int _ _ _ (by omega)] at hu
      injection hu with hu
      subst hu
      rw [add_pl]; exact hc
    · intro v' w' h2 h3 _
      exact h v' w' (by unfold OwnI; rw [List.map_append]; exact h2) (OwnI.grown hown h3 hbase)

/-- An append of one number. -/
theorem wpList_append_one {P : Program} {ops : Array Oper} {rest : List Oper} {o : Oper} {a : Act} {Q : Exit → Act → World → Prop} (hgd : o.guard = none) (s x : Operand) (t : TypeId)
    (ho : o.op = .call { callee := .builtin .append, args := #[s, x], argTypes := #[t, t] })
    (base e : Nat) (i : TypeInfo) (z : Value) (bytes : Nat) (ht : P.underlying t = some (.slice e)) (hi : P.info? e = some i) (hz : i.zero = some z)
    (hsize : i.size = 1) (hby : i.bytes = bytes) (hzs : z.cells.size = 1)
    (v : Value) (n : Nat) (xs : List Int) (hs : a.eval s = v) (hown : OwnI k e base w v n xs)
    (g c : Nat) (q : Int) (hx : a.eval x = .slice (some ⟨g, 0, none⟩) 1 c) (hr : w.cell? ⟨g, 0, none⟩ = some (.int k q))
    (h63 : n + 1 ≤ maxLen) (hbytes : (n + 1) * bytes ≤ 140737488355328) (hbase : base ≤ w.heap.size)
    (h : ∀ v' w', OwnI k e base w' v' (n + 1) (xs ++ [q]) → Below base w w' → wpList P ops Q rest (a.put o.dst v') w') : wpList P ops Q (o :: rest) a w := by
  refine wpList_append_own w hgd s x t ho base e i z 1 bytes ht hi hz hsize hby hzs (by omega) v n _ hs hown ⟨g, 0, none⟩ 1 c ([q].map (Value.int k)) hx rfl ?_ (ints_oneCell k [q]) h63 hbytes hbase ?_
  · intro j u hu
    cases j with
    | zero => simp at hu; subst hu; exact hr
    | succ j => simp at hu
  · intro v' w' h2 h3 _
    exact h v' w' (by unfold OwnI; rw [List.map_append]; exact h2) (OwnI.grown hown h3 hbase)
end
end Go.Proofs.YtedjclnojocjkaaGreatDoor.Mem
namespace Go.Proofs.YtedjclnojocjkaaGreatDoor.Parts
open Go Go.RowKit

/-- Block b holds seven cells. -/
def Sept (T : TypeId) (b : Nat) (x0 x1 x2 x3 x4 x5 x6 : Value) (w : World) : Prop := w.heap[b]? = some (.cells #[x0, x1, x2, x3, x4, x5, x6] T (0, 0))
section
variable {T : TypeId} {b B : Nat} {x0 x1 x2 x3 x4 x5 x6 : Value} {w w' : World}
theorem Sept.new (T : TypeId) (x0 x1 x2 x3 x4 x5 x6 : Value) (w : World) : Sept T w.heap.size x0 x1 x2 x3 x4 x5 x6 (w.alloc (.cells #[x0, x1, x2, x3, x4, x5, x6] T)) := by
  show (w.heap.push _)[w.heap.size]? = _
  simp
theorem Sept.lt (h : Sept T b x0 x1 x2 x3 x4 x5 x6 w) : b < w.heap.size := (Array.getElem?_eq_some_iff.1 h).1
theorem Sept.below (h : Sept T b x0 x1 x2 x3 x4 x5 x6 w) (hb : Below w.heap.size w w') : Sept T b x0 x1 x2 x3 x4 x5 x6 w' := (hb.block b h.lt).trans h
theorem Sept.under (h : Sept T b x0 x1 x2 x3 x4 x5 x6 w) (hb : Below B w w') (hB : b < B) : Sept T b x0 x1 x2 x3 x4 x5 x6 w' := (hb.block b hB).trans h
theorem Sept.alloc (h : Sept T b x0 x1 x2 x3 x4 x5 x6 w) (o : Obj) : Sept T b x0 x1 x2 x3 x4 x5 x6 (w.alloc o) := h.below ((Below.refl _ _).alloc (Nat.le_refl _) _)
theorem Sept.drewN (h : Sept T b x0 x1 x2 x3 x4 x5 x6 w) (n : Nat) : Sept T b x0 x1 x2 x3 x4 x5 x6 (w.drewN n) := h
theorem Sept.drew (h : Sept T b x0 x1 x2 x3 x4 x5 x6 w) : Sept T b x0 x1 x2 x3 x4 x5 x6 w.drew := h
theorem Sept.cells (h : Sept T b x0 x1 x2 x3 x4 x5 x6 w) : w.cell? ⟨b, 0, none⟩ = some x0 ∧ w.cell? ⟨b, 1, none⟩ = some x1 ∧ w.cell? ⟨b, 2, none⟩ = some x2 ∧ w.cell? ⟨b, 3, none⟩ = some x3 ∧ w.cell? ⟨b, 4, none⟩ = some x4 ∧ w.cell? ⟨b, 5, none⟩ = some x5 ∧ w.cell? ⟨b, 6, none⟩ = some x6 := by
  unfold Sept at h
  refine ⟨?_, ?_, ?_, ?_, ?_, ?_, ?_⟩ <;> simp [World.cell?, h]
theorem Sept.frozen (h : Sept T b x0 x1 x2 x3 x4 x5 x6 w) : w.frozen? ⟨b, 0, none⟩ = false ∧ w.frozen? ⟨b, 1, none⟩ = false ∧ w.frozen? ⟨b, 2, none⟩ = false ∧ w.frozen? ⟨b, 3, none⟩ = false ∧ w.frozen? ⟨b, 4, none⟩ = false ∧ w.frozen? ⟨b, 5, none⟩ = false ∧ w.frozen? ⟨b, 6, none⟩ = false :=
  ⟨frozen_of_row w b 0 _ _ h, frozen_of_row w b 1 _ _ h, frozen_of_row w b 2 _ _ h, frozen_of_row w b 3 _ _ h, frozen_of_row w b 4 _ _ h, frozen_of_row w b 5 _ _ h, frozen_of_row w b 6 _ _ h⟩
theorem Sept.set0 (h : Sept T b x0 x1 x2 x3 x4 x5 x6 w) (u : Value) : Sept T b u x1 x2 x3 x4 x5 x6 (w.setCell ⟨b, 0, none⟩ u) := by
  have := heap_setCell_same w b 0 _ _ u h; simpa [Sept] using this
theorem Sept.set1 (h : Sept T b x0 x1 x2 x3 x4 x5 x6 w) (u : Value) : Sept T b x0 u x2 x3 x4 x5 x6 (w.setCell ⟨b, 1, none⟩ u) := by
  have := heap_setCell_same w b 1 _ _ u h; simpa [Sept] using this
theorem Sept.set2 (h : Sept T b x0 x1 x2 x3 x4 x5 x6 w) (u : Value) : Sept T b x0 x1 u x3 x4 x5 x6 (w.setCell ⟨b, 2, none⟩ u) := by
  have := heap_setCell_same w b 2 _ _ u h; simpa [Sept] using this
theorem Sept.set3 (h : Sept T b x0 x1 x2 x3 x4 x5 x6 w) (u : Value) : Sept T b x0 x1 x2 u x4 x5 x6 (w.setCell ⟨b, 3, none⟩ u) := by
  have := heap_setCell_same w b 3 _ _ u h; simpa [Sept] using this
theorem Sept.set4 (h : Sept T b x0 x1 x2 x3 x4 x5 x6 w) (u : Value) : Sept T b x0 x1 x2 x3 u x5 x6 (w.setCell ⟨b, 4, none⟩ u) := by
  have := heap_setCell_same w b 4 _ _ u h; simpa [Sept] using this
theorem Sept.set5 (h : Sept T b x0 x1 x2 x3 x4 x5 x6 w) (u : Value) : Sept T b x0 x1 x2 x3 x4 u x6 (w.setCell ⟨b, 5, none⟩ u) := by
  have := heap_setCell_same w b 5 _ _ u h; simpa [Sept] using this
theorem Sept.set6 (h : Sept T b x0 x1 x2 x3 x4 x5 x6 w) (u : Value) : Sept T b x0 x1 x2 x3 x4 x5 u (w.setCell ⟨b, 6, none⟩ u) := by
  have := heap_setCell_same w b 6 _ _ u h; simpa [Sept] using this
theorem Sept.other (h : Sept T b x0 x1 x2 x3 x4 x5 x6 w) {a : Addr} (u : Value) (hne : b ≠ a.block) : Sept T b x0 x1 x2 x3 x4 x5 x6 (w.setCell a u) := (heap_setCell_other w a b u hne).trans h
end
end Go.Proofs.YtedjclnojocjkaaGreatDoor.Parts
namespace Go.Proofs.YtedjclnojocjkaaGreatDoor.Res
open Go Go.RowKit

/-- Block b holds five cells. -/
def Quint (T : TypeId) (b : Nat) (x0 x1 x2 x3 x4 : Value) (w : World) : Prop := w.heap[b]? = some (.cells #[x0, x1, x2, x3, x4] T (0, 0))
section
variable {T : TypeId} {b B : Nat} {x0 x1 x2 x3 x4 : Value} {w w' : World}
theorem Quint.new (T : TypeId) (x0 x1 x2 x3 x4 : Value) (w : World) : Quint T w.heap.size x0 x1 x2 x3 x4 (w.alloc (.cells #[x0, x1, x2, x3, x4] T)) := by
  show (w.heap.push _)[w.heap.size]? = _
  simp
theorem Quint.lt (h : Quint T b x0 x1 x2 x3 x4 w) : b < w.heap.size := (Array.getElem?_eq_some_iff.1 h).1
theorem Quint.below (h : Quint T b x0 x1 x2 x3 x4 w) (hb : Below w.heap.size w w') : Quint T b x0 x1 x2 x3 x4 w' := (hb.block b h.lt).trans h
theorem Quint.under (h : Quint T b x0 x1 x2 x3 x4 w) (hb : Below B w w') (hB : b < B) : Quint T b x0 x1 x2 x3 x4 w' := (hb.block b hB).trans h
theorem Quint.alloc (h : Quint T b x0 x1 x2 x3 x4 w) (o : Obj) : Quint T b x0 x1 x2 x3 x4 (w.alloc o) := h.below ((Below.refl _ _).alloc (Nat.le_refl _) _)
theorem Quint.drewN (h : Quint T b x0 x1 x2 x3 x4 w) (n : Nat) : Quint T b x0 x1 x2 x3 x4 (w.drewN n) := h
theorem Quint.drew (h : Quint T b x0 x1 x2 x3 x4 w) : Quint T b x0 x1 x2 x3 x4 w.drew := h
theorem Quint.cells (h : Quint T b x0 x1 x2 x3 x4 w) : w.cell? ⟨b, 0, none⟩ = some x0 ∧ w.cell? ⟨b, 1, none⟩ = some x1 ∧ w.cell? ⟨b, 2, none⟩ = some x2 ∧ w.cell? ⟨b, 3, none⟩ = some x3 ∧ w.cell? ⟨b, 4, none⟩ = some x4 := by
  unfold Quint at h
  refine ⟨?_, ?_, ?_, ?_, ?_⟩ <;> simp [World.cell?, h]
theorem Quint.frozen (h : Quint T b x0 x1 x2 x3 x4 w) : w.frozen? ⟨b, 0, none⟩ = false ∧ w.frozen? ⟨b, 1, none⟩ = false ∧ w.frozen? ⟨b, 2, none⟩ = false ∧ w.frozen? ⟨b, 3, none⟩ = false ∧ w.frozen? ⟨b, 4, none⟩ = false :=
  ⟨frozen_of_row w b 0 _ _ h, frozen_of_row w b 1 _ _ h, frozen_of_row w b 2 _ _ h, frozen_of_row w b 3 _ _ h, frozen_of_row w b 4 _ _ h⟩
theorem Quint.set0 (h : Quint T b x0 x1 x2 x3 x4 w) (u : Value) : Quint T b u x1 x2 x3 x4 (w.setCell ⟨b, 0, none⟩ u) := by
  have := heap_setCell_same w b 0 _ _ u h; simpa [Quint] using this
theorem Quint.set1 (h : Quint T b x0 x1 x2 x3 x4 w) (u : Value) : Quint T b x0 u x2 x3 x4 (w.setCell ⟨b, 1, none⟩ u) := by
  have := heap_setCell_same w b 1 _ _ u h; simpa [Quint] using this
theorem Quint.set2 (h : Quint T b x0 x1 x2 x3 x4 w) (u : Value) : Quint T b x0 x1 u x3 x4 (w.setCell ⟨b, 2, none⟩ u) := by
  have := heap_setCell_same w b 2 _ _ u h; simpa [Quint] using this
theorem Quint.set3 (h : Quint T b x0 x1 x2 x3 x4 w) (u : Value) : Quint T b x0 x1 x2 u x4 (w.setCell ⟨b, 3, none⟩ u) := by
  have := heap_setCell_same w b 3 _ _ u h; simpa [Quint] using this
theorem Quint.set4 (h : Quint T b x0 x1 x2 x3 x4 w) (u : Value) : Quint T b x0 x1 x2 x3 u (w.setCell ⟨b, 4, none⟩ u) := by
  have := heap_setCell_same w b 4 _ _ u h; simpa [Quint] using this
theorem Quint.other (h : Quint T b x0 x1 x2 x3 x4 w) {a : Addr} (u : Value) (hne : b ≠ a.block) : Quint T b x0 x1 x2 x3 x4 (w.setCell a u) := (heap_setCell_other w a b u hne).trans h
theorem ten {T' : TypeId} {b' : Nat} {y0 y1 y2 y3 y4 : Value} (h : Quint T b x0 x1 x2 x3 x4 w) (k : Quint T' b' y0 y1 y2 y3 y4 w) :
    w.cell? ⟨b, 0, none⟩ = some x0 ∧ w.cell? ⟨b, 1, none⟩ = some x1 ∧ w.cell? ⟨b, 2, none⟩ = some x2 ∧ w.cell? ⟨b, 3, none⟩ = some x3 ∧ w.cell? ⟨b, 4, none⟩ = some x4 ∧
    w.cell? ⟨b', 0, none⟩ = some y0 ∧ w.cell? ⟨b', 1, none⟩ = some y1 ∧ w.cell? ⟨b', 2, none⟩ = some y2 ∧ w.cell? ⟨b', 3, none⟩ = some y3 ∧ w.cell? ⟨b', 4, none⟩ = some y4 :=
  ⟨h.cells.1, h.cells.2.1, h.cells.2.2.1, h.cells.2.2.2.1, h.cells.2.2.2.2, k.cells⟩
end
end Go.Proofs.YtedjclnojocjkaaGreatDoor.Res
namespace Go.Proofs.YtedjclnojocjkaaGreatDoor.Parts
open Go Go.RowKit Go.Proofs.YtedjclnojocjkaaGreatDoor.Mem

/-- A part, as a list of numbers and its body. -/
structure Prt where
  d : Int
  k : Int
  zs : List Int
  h : Int
  p : Int
  q : Int
  u : Int
def noPrt : Prt := ⟨0, 0, [], 0, 0, 0, 0⟩
def pt (l : List Prt) (i : Nat) : Prt := l.getD i noPrt
def Prt.Wf (P : Prt) : Prop := (Lit.int .i64 P.d).wf = true ∧ (Lit.int .i64 P.k).wf = true ∧ (Lit.int .i64 P.h).wf = true ∧ (Lit.int .i64 P.p).wf = true ∧ (Lit.int .i64 P.q).wf = true ∧ (Lit.int .i64 P.u).wf = true

theorem pt_mem {l : List Prt} {i : Nat} (h : i < l.length) : pt l i ∈ l := by
  unfold pt
  rw [List.getD_eq_getElem?_getD, List.getElem?_eq_getElem h]
  exact List.getElem_mem _

/-- The seven cells of a part, from offset o of block b on. -/
structure Cells7 (w : World) (b o : Nat) (P : Prt) (A : Option Addr) (c : Nat) : Prop where
  c0 : w.cell? ⟨b, o, none⟩ = some (.int .i64 P.d)
  c1 : w.cell? ⟨b, o + 1, none⟩ = some (.int .i64 P.k)
  c2 : w.cell? ⟨b, o + 2, none⟩ = some (.slice A P.zs.length c)
  c3 : w.cell? ⟨b, o + 3, none⟩ = some (.int .i64 P.h)
  c4 : w.cell? ⟨b, o + 4, none⟩ = some (.int .i64 P.p)
  c5 : w.cell? ⟨b, o + 5, none⟩ = some (.int .i64 P.q)
  c6 : w.cell? ⟨b, o + 6, none⟩ = some (.int .i64 P.u)

def Free7 (w : World) (b o : Nat) : Prop := ∀ x, x < 7 → w.frozen? ⟨b, o + x, none⟩ = false

/-- What lies behind one part. -/
structure Lain (lo hi : Nat) (w : World) (P : Prt) (A : Option Addr) (c : Nat) : Prop where
  row : Row .i64 lo hi w A P.zs.length P.zs
  le : P.zs.length ≤ c
  max : c ≤ maxLen

/-- The slice '.slice a n _' reads as the parts l; what it needs lies in blocks from lo on and below hi. -/
structure PRow (lo hi : Nat) (w : World) (a : Option Addr) (n : Nat) (l : List Prt) : Prop where
  len : l.length = n
  wf : ∀ P ∈ l, P.Wf
  here : 0 < n → ∃ b off, a = some ⟨b, off, none⟩ ∧ lo ≤ b ∧ b < hi ∧ ∀ i, i < n → ∃ A c, Cells7 w b (off + i * 7) (pt l i) A c ∧ Lain lo hi w (pt l i) A c

/-- No body lies in the parts' own block, no two bodies in one. -/
def Sep (b n : Nat) (F : Nat → Option Addr × Nat) (l : List Prt) : Prop :=
  (∀ i, i < n → ∀ x, (F i).1 = some x → 0 < (pt l i).zs.length → x.block ≠ b) ∧
  ∀ i j, i < n → j < n → i ≠ j → ∀ x y, (F i).1 = some x → (F j).1 = some y → 0 < (pt l i).zs.length → 0 < (pt l j).zs.length → x.block ≠ y.block

/-- One part of a slice that may be written. -/
structure Held (lo hi : Nat) (w : World) (b o : Nat) (P : Prt) (f : Option Addr × Nat) : Prop where
  cells : Cells7 w b o P f.1 f.2
  free : Free7 w b o
  body : Own .i64 lo hi w f.1 P.zs.length P.zs
  le : P.zs.length ≤ f.2
  max : f.2 ≤ maxLen

/-- The same of a slice that may be written. -/
structure POwn (lo hi : Nat) (w : World) (a : Option Addr) (n : Nat) (l : List Prt) : Prop where
  len : l.length = n
  wf : ∀ P ∈ l, P.Wf
  here : 0 < n → ∃ b off F, a = some ⟨b, off, none⟩ ∧ lo ≤ b ∧ b < hi ∧ (∀ i, i < n → Held lo hi w b (off + i * 7) (pt l i) (F i)) ∧ Sep b n F l

section
variable {lo hi B n b o c : Nat} {w w' : World} {a A : Option Addr} {l : List Prt} {P : Prt} {f : Option Addr × Nat}
theorem Cells7.keep (h : Cells7 w b o P A c) (hb : w'.heap[b]? = w.heap[b]?) : Cells7 w' b o P A c := by
  obtain ⟨h0, h1, h2, h3, h4, h5, h6⟩ := h
  exact ⟨by rw [cell_of_heap hb]; exact h0, by rw [cell_of_heap hb]; exact h1, by rw [cell_of_heap hb]; exact h2, by rw [cell_of_heap hb]; exact h3, by rw [cell_of_heap hb]; exact h4, by rw [cell_of_heap hb]; exact h5, by rw [cell_of_heap hb]; exact h6⟩
theorem Cells7.lt (h : Cells7 w b o P A c) : b < w.heap.size := cell_lt h.c0
theorem Lain.keep (h : Lain lo hi w P A c) (hk : ∀ i, i < w.heap.size → lo ≤ i → i < hi → w'.heap[i]? = w.heap[i]?) : Lain lo hi w' P A c := ⟨h.row.keep hk, h.le, h.max⟩
theorem Lain.more {lo' hi' : Nat} (h : Lain lo hi w P A c) (h1 : lo' ≤ lo) (h2 : hi ≤ hi') : Lain lo' hi' w P A c := ⟨h.row.more h1 h2, h.le, h.max⟩
theorem PRow.keep (h : PRow lo hi w a n l) (hk : ∀ i, i < w.heap.size → lo ≤ i → i < hi → w'.heap[i]? = w.heap[i]?) : PRow lo hi w' a n l :=
  ⟨h.len, h.wf, fun hn => by
    obtain ⟨b, off, a1, a2, a3, a4⟩ := h.here hn
    refine ⟨b, off, a1, a2, a3, fun i hi => ?_⟩
    obtain ⟨A, c, h1, h2⟩ := a4 i hi
    exact ⟨A, c, h1.keep (hk b h1.lt a2 a3), h2.keep hk⟩⟩
theorem PRow.below (h : PRow lo hi w a n l) (hb : Below w.heap.size w w') : PRow lo hi w' a n l := h.keep fun i hi _ _ => hb.block i hi
theorem PRow.under (h : PRow lo hi w a n l) (hb : Below B w w') (hB : hi ≤ B) : PRow lo hi w' a n l := h.keep fun i _ _ h2 => hb.block i (by omega)
theorem PRow.zone {lo' hi' : Nat} (h : PRow lo hi w a n l) (hz : Zone lo' hi' w w') (hd : hi ≤ lo' ∨ hi' ≤ lo) : PRow lo hi w' a n l := h.keep fun i h0 h1 h2 => hz.block i h0 (by omega)
theorem PRow.drewN (h : PRow lo hi w a n l) (m : Nat) : PRow lo hi (w.drewN m) a n l := h.keep fun _ _ _ _ => rfl
theorem PRow.more {lo' hi' : Nat} (h : PRow lo hi w a n l) (h1 : lo' ≤ lo) (h2 : hi ≤ hi') : PRow lo' hi' w a n l :=
  ⟨h.len, h.wf, fun hn => by
    obtain ⟨b, off, a1, a2, a3, a4⟩ := h.here hn
    refine ⟨b, off, a1, by omega, by omega, fun i hi => ?_⟩
    obtain ⟨A, c, g1, g2⟩ := a4 i hi
    exact ⟨A, c, g1, g2.more h1 h2⟩⟩
theorem PRow.at (h : PRow lo hi w a n l) {i : Nat} (hi' : i < n) : ∃ b off A c, a = some ⟨b, off, none⟩ ∧ lo ≤ b ∧ b < hi ∧ Cells7 w b (off + i * 7) (pt l i) A c ∧ Lain lo hi w (pt l i) A c ∧ (pt l i).Wf := by
  obtain ⟨b, off, a1, a2, a3, a4⟩ := h.here (by omega)
  obtain ⟨A, c, h1, h2⟩ := a4 i hi'
  exact ⟨b, off, A, c, a1, a2, a3, h1, h2, h.wf _ (pt_mem (by rw [h.len]; exact hi'))⟩
theorem PRow.nil (lo hi : Nat) (w : World) (a : Option Addr) : PRow lo hi w a 0 [] := ⟨rfl, by simp, fun h => absurd h (by omega)⟩
theorem POwn.nil (lo hi : Nat) (w : World) (a : Option Addr) : POwn lo hi w a 0 [] := ⟨rfl, by simp, fun h => absurd h (by omega)⟩
theorem Held.lain (h : Held lo hi w b o P f) : Lain lo hi w P f.1 f.2 := ⟨h.body.row, h.le, h.max⟩
theorem POwn.row (h : POwn lo hi w a n l) : PRow lo hi w a n l :=
  ⟨h.len, h.wf, fun hn => by
    obtain ⟨b, off, F, a1, a2, a3, a4, _⟩ := h.here hn
    exact ⟨b, off, a1, a2, a3, fun i hi => ⟨_, _, (a4 i hi).cells, (a4 i hi).lain⟩⟩⟩
theorem Free7.keep (h : Free7 w b o) (hb : w'.heap[b]? = w.heap[b]?) : Free7 w' b o := fun x hx => by rw [frozen_of_heap hb]; exact h x hx
theorem Held.keep (h : Held lo hi w b o P f) (hlo : lo ≤ b) (hhi : b < hi) (hk : ∀ i, i < w.heap.size → lo ≤ i → i < hi → w'.heap[i]? = w.heap[i]?) : Held lo hi w' b o P f :=
  ⟨h.cells.keep (hk b h.cells.lt hlo hhi), h.free.keep (hk b h.cells.lt hlo hhi), h.body.keep hk, h.le, h.max⟩
theorem POwn.keep (h : POwn lo hi w a n l) (hk : ∀ i, i < w.heap.size → lo ≤ i → i < hi → w'.heap[i]? = w.heap[i]?) : POwn lo hi w' a n l :=
  ⟨h.len, h.wf, fun hn => by
    obtain ⟨b, off, F, a1, a2, a3, a4, a5⟩ := h.here hn
    exact ⟨b, off, F, a1, a2, a3, fun i hi => (a4 i hi).keep a2 a3 hk, a5⟩⟩
theorem POwn.below (h : POwn lo hi w a n l) (hb : Below w.heap.size w w') : POwn lo hi w' a n l := h.keep fun i hi _ _ => hb.block i hi
theorem POwn.under (h : POwn lo hi w a n l) (hb : Below B w w') (hB : hi ≤ B) : POwn lo hi w' a n l := h.keep fun i _ _ h2 => hb.block i (by omega)
theorem POwn.zone {lo' hi' : Nat} (h : POwn lo hi w a n l) (hz : Zone lo' hi' w w') (hd : hi ≤ lo' ∨ hi' ≤ lo) : POwn lo hi w' a n l := h.keep fun i h0 h1 h2 => hz.block i h0 (by omega)
theorem POwn.drewN (h : POwn lo hi w a n l) (m : Nat) : POwn lo hi (w.drewN m) a n l := h.keep fun _ _ _ _ => rfl
theorem Held.more {lo' hi' : Nat} (h : Held lo hi w b o P f) (h1 : lo' ≤ lo) (h2 : hi ≤ hi') : Held lo' hi' w b o P f := ⟨h.cells, h.free, h.body.more h1 h2, h.le, h.max⟩
theorem POwn.more {lo' hi' : Nat} (h : POwn lo hi w a n l) (h1 : lo' ≤ lo) (h2 : hi ≤ hi') : POwn lo' hi' w a n l :=
  ⟨h.len, h.wf, fun hn => by
    obtain ⟨b, off, F, a1, a2, a3, a4, a5⟩ := h.here hn
    exact ⟨b, off, F, a1, by omega, by omega, fun i hi => (a4 i hi).more h1 h2, a5⟩⟩
end

/-- What a call hands back: a slice of parts of its own. -/
def PSlice (lo n : Nat) (l : List Prt) (w : World) (e : Ending) (w' : World) : Prop :=
  ∃ a c, e = .returned (.slice a n c) ∧ POwn lo w'.heap.size w' a n l ∧ n ≤ c ∧ c ≤ maxLen ∧ Below lo w w'

/-- How much room the parts take. -/
def room : List Prt → Nat
  | [] => 0
  | P :: l => 1 + P.zs.length + room l
def bodies : List Prt → Nat
  | [] => 0
  | P :: l => P.zs.length + bodies l
theorem room_eq (l : List Prt) : room l = l.length + bodies l := by
  induction l with
  | nil => rfl
  | cons P l ih => simp [room, bodies, ih]; omega
theorem bodies_take (l : List Prt) (i : Nat) (h : i < l.length) : bodies (l.take (i + 1)) = bodies (l.take i) + (pt l i).zs.length := by
  induction l generalizing i with
  | nil => simp at h
  | cons P l ih =>
    cases i with
    | zero => simp [bodies, pt]
    | succ i =>
      simp only [List.take_succ_cons, bodies]
      rw [ih i (by simpa using h)]
      simp [pt]; omega
theorem bodies_le (l : List Prt) (i : Nat) : bodies (l.take i) ≤ bodies l := by
  induction l generalizing i with
  | nil => simp
  | cons P l ih => cases i with
    | zero => simp [bodies]
    | succ i => simp only [List.take_succ_cons, bodies]; have := ih i; omega
end Go.Proofs.YtedjclnojocjkaaGreatDoor.Parts
namespace Go.Proofs.YtedjclnojocjkaaGreatDoor.Parts
open Go Go.RowKit Go.Proofs.YtedjclnojocjkaaGreatDoor.Mem

abbrev Body := Option Addr × Nat
def noBody : Body := (none, 0)
def upd (F : Nat → Body) (j : Nat) (f : Body) : Nat → Body := fun i => if i = j then f else F i
theorem upd_same (F : Nat → Body) (j : Nat) (f : Body) : upd F j f j = f := by simp [upd]
theorem upd_other (F : Nat → Body) {i j : Nat} (f : Body) (h : i ≠ j) : upd F j f i = F i := by simp [upd, h]

/-- One body more, behind the bodies that were there. -/
theorem Sep.next {b j M : Nat} {F : Nat → Body} {l : List Prt} {f : Body} (h : Sep b j F l) (h1 : ∀ i, i < j → ∀ x, (F i).1 = some x → 0 < (pt l i).zs.length → x.block < M)
    (h2 : ∀ x, f.1 = some x → 0 < (pt l j).zs.length → M ≤ x.block) (h3 : ∀ x, f.1 = some x → 0 < (pt l j).zs.length → x.block ≠ b) : Sep b (j + 1) (upd F j f) l := by
  refine ⟨fun i hi x hx hp => ?_, fun i k hi hk hne x y hx hy hpx hpy => ?_⟩
  · by_cases he : i = j
    · subst he; rw [upd_same] at hx; exact h3 x hx hp
    · rw [upd_other _ _ he] at hx; exact h.1 i (by omega) x hx hp
  · by_cases he : i = j
    · subst he
      have hk' : k ≠ i := fun e => hne e.symm
      rw [upd_same] at hx
      rw [upd_other _ _ hk'] at hy
      have a1 := h1 k (by omega) y hy hpy
      have a2 := h2 x hx hpx
      omega
    · rw [upd_other _ _ he] at hx
      by_cases he2 : k = j
      · subst he2
        rw [upd_same] at hy
        have a1 := h1 i (by omega) x hx hpx
        have a2 := h2 y hy hpy
        omega
      · rw [upd_other _ _ he2] at hy
        exact h.2 i k (by omega) (by omega) hne x y hx hy hpx hpy

/-- The seven cells of a part are written. -/
def put7 (w : World) (b o : Nat) (P : Prt) (A : Option Addr) (m c : Nat) : World :=
  ((((((w.setCell ⟨b, o, none⟩ (.int .i64 P.d)).setCell ⟨b, o + 1, none⟩ (.int .i64 P.k)).setCell ⟨b, o + 2, none⟩ (.slice A m c)).setCell ⟨b, o + 3, none⟩ (.int .i64 P.h)).setCell ⟨b, o + 4, none⟩ (.int .i64 P.p)).setCell ⟨b, o + 5, none⟩ (.int .i64 P.q)).setCell ⟨b, o + 6, none⟩ (.int .i64 P.u)
theorem put7_frozen (w : World) (b o : Nat) (P : Prt) (A : Option Addr) (m c : Nat) (x : Addr) : (put7 w b o P A m c).frozen? x = w.frozen? x := by
  unfold put7; simp only [World.frozen?_setCell]
theorem put7_block (w : World) (b o : Nat) (P : Prt) (A : Option Addr) (m c : Nat) (k : Nat) (h : k ≠ b) : (put7 w b o P A m c).heap[k]? = w.heap[k]? := by
  unfold put7
  rw [Below.heap_setCell _ _ _ _ h, Below.heap_setCell _ _ _ _ h, Below.heap_setCell _ _ _ _ h, Below.heap_setCell _ _ _ _ h, Below.heap_setCell _ _ _ _ h, Below.heap_setCell _ _ _ _ h, Below.heap_setCell _ _ _ _ h]
theorem put7_size (w : World) (b o : Nat) (P : Prt) (A : Option Addr) (m c : Nat) : (put7 w b o P A m c).heap.size = w.heap.size := by
  unfold put7; simp [World.setCell]
theorem put7_below {B : Nat} {w0 w : World} (h : Below B w0 w) (b o : Nat) (P : Prt) (A : Option Addr) (m c : Nat) (hb : B ≤ b) : Below B w0 (put7 w b o P A m c) := by
  unfold put7
  exact ((((((h.setCell hb _).setCell hb _).setCell hb _).setCell hb _).setCell hb _).setCell hb _).setCell hb _
theorem put7_zone {lo hi : Nat} {w0 w : World} (h : Zone lo hi w0 w) (b o : Nat) (P : Prt) (A : Option Addr) (m c : Nat) (hb : lo ≤ b ∧ b < hi) : Zone lo hi w0 (put7 w b o P A m c) := by
  unfold put7
  exact ((((((h.setCell hb _).setCell hb _).setCell hb _).setCell hb _).setCell hb _).setCell hb _).setCell hb _
theorem cell_set_ne {w : World} {b o o' : Nat} (v : Value) (h : o ≠ o') : (w.setCell ⟨b, o, none⟩ v).cell? ⟨b, o', none⟩ = w.cell? ⟨b, o', none⟩ :=
  World.cell?_setCell_other _ _ _ _ (by intro e; injection e with _ e _; omega)
theorem put7_other (w : World) (b o : Nat) (P : Prt) (A : Option Addr) (m c x : Nat) (h : x < o ∨ o + 7 ≤ x) : (put7 w b o P A m c).cell? ⟨b, x, none⟩ = w.cell? ⟨b, x, none⟩ := by
  unfold put7
  rw [cell_set_ne _ (by omega), cell_set_ne _ (by omega), cell_set_ne _ (by omega), cell_set_ne _ (by omega), cell_set_ne _ (by omega), cell_set_ne _ (by omega), cell_set_ne _ (by omega)]
theorem put7_cells (w : World) (b o : Nat) (P : Prt) (A : Option Addr) (c : Nat) (h : ∀ x, x < 7 → ∃ u, w.cell? ⟨b, o + x, none⟩ = some u) : Cells7 (put7 w b o P A P.zs.length c) b o P A c := by
  obtain ⟨u0, h0⟩ := h 0 (by omega)
  obtain ⟨u1, h1⟩ := h 1 (by omega)
  obtain ⟨u2, h2⟩ := h 2 (by omega)
  obtain ⟨u3, h3⟩ := h 3 (by omega)
  obtain ⟨u4, h4⟩ := h 4 (by omega)
  obtain ⟨u5, h5⟩ := h 5 (by omega)
  obtain ⟨u6, h6⟩ := h 6 (by omega)
  rw [Nat.add_zero] at h0
  unfold put7
  refine ⟨?_, ?_, ?_, ?_, ?_, ?_, ?_⟩
  · rw [cell_set_ne _ (by omega), cell_set_ne _ (by omega), cell_set_ne _ (by omega), cell_set_ne _ (by omega), cell_set_ne _ (by omega), cell_set_ne _ (by omega), World.cell?_setCell_same _ _ _ h0]
  · rw [cell_set_ne _ (by omega), cell_set_ne _ (by omega), cell_set_ne _ (by omega), cell_set_ne _ (by omega), cell_set_ne _ (by omega), World.cell?_setCell_same _ _ _ (by rw [cell_set_ne _ (by omega)]; exact h1)]
  · rw [cell_set_ne _ (by omega), cell_set_ne _ (by omega), cell_set_ne _ (by omega), cell_set_ne _ (by omega), World.cell?_setCell_same _ _ _ (by rw [cell_set_ne _ (by omega), cell_set_ne _ (by omega)]; exact h2)]
  · rw [cell_set_ne _ (by omega), cell_set_ne _ (by omega), cell_set_ne _ (by omega), World.cell?_setCell_same _ _ _ (by rw [cell_set_ne _ (by omega), cell_set_ne _ (by omega), cell_set_ne _ (by omega)]; exact h3)]
  · rw [cell_set_ne _ (by omega), cell_set_ne _ (by omega), World.cell?_setCell_same _ _ _ (by rw [cell_set_ne _ (by omega), cell_set_ne _ (by omega), cell_set_ne _ (by omega), cell_set_ne _ (by omega)]; exact h4)]
  · rw [cell_set_ne _ (by omega), World.cell?_setCell_same _ _ _ (by rw [cell_set_ne _ (by omega), cell_set_ne _ (by omega), cell_set_ne _ (by omega), cell_set_ne _ (by omega), cell_set_ne _ (by omega)]; exact h5)]
  · rw [World.cell?_setCell_same _ _ _ (by rw [cell_set_ne _ (by omega), cell_set_ne _ (by omega), cell_set_ne _ (by omega), cell_set_ne _ (by omega), cell_set_ne _ (by omega), cell_set_ne _ (by omega)]; exact h6)]

/-- A slice of n parts in block b, of which the first j are filled. -/
structure Filled (b n : Nat) (l : List Prt) (j : Nat) (w : World) : Prop where
  lt : b < w.heap.size
  held : ∃ F, (∀ i, i < j → Held b w.heap.size w b (i * 7) (pt l i) (F i)) ∧ Sep b j F l
  rest : ∀ x, x < n * 7 → (∃ u, w.cell? ⟨b, x, none⟩ = some u) ∧ w.frozen? ⟨b, x, none⟩ = false
theorem Filled.below {b n j : Nat} {l : List Prt} {w w' : World} (h : Filled b n l j w) (hb : Below w.heap.size w w') : Filled b n l j w' := by
  obtain ⟨F, h1, h2⟩ := h.held
  have e := hb.block b h.lt
  refine ⟨Nat.lt_of_lt_of_le h.lt hb.size, ⟨F, fun i hi => ((h1 i hi).keep (Nat.le_refl _) h.lt (fun k hk _ _ => hb.block k hk)).more (Nat.le_refl _) hb.size, h2⟩, fun x hx => ?_⟩
  rw [cell_of_heap e, frozen_of_heap e]
  exact h.rest x hx
theorem own_block {k : IntKind} {lo hi n : Nat} {w : World} {a : Option Addr} {zs : List Int} (h : Own k lo hi w a n zs) (x : Addr) (hx : a = some x) (hn : 0 < n) : lo ≤ x.block ∧ x.block < hi := by
  obtain ⟨b, off, h1, h2, h3, _⟩ := h.here hn
  rw [h1] at hx
  injection hx with hx
  subst hx
  exact ⟨h2, h3⟩
theorem Filled.next {b n j c : Nat} {l : List Prt} {w w1 : World} {A : Option Addr} (h : Filled b n l j w) (hb : Below w.heap.size w w1) (ho : Own .i64 w.heap.size w1.heap.size w1 A (pt l j).zs.length (pt l j).zs) (hc : (pt l j).zs.length ≤ c) (hm : c ≤ maxLen) (hj : j < n) :
    Filled b n l (j + 1) (put7 w1 b (j * 7) (pt l j) A (pt l j).zs.length c) := by
  have h' := h.below hb
  obtain ⟨F, h1, h2⟩ := h.held
  have hlt := h.lt
  have hsz := hb.size
  have hout : ∀ k, k ≠ b → (put7 w1 b (j * 7) (pt l j) A (pt l j).zs.length c).heap[k]? = w1.heap[k]? := fun k hk => put7_block _ _ _ _ _ _ _ k hk
  have hbody : ∀ (i : Nat) (f : Body) (lo hi : Nat), (∀ x, f.1 = some x → 0 < (pt l i).zs.length → x.block ≠ b) → Own .i64 lo hi w1 f.1 (pt l i).zs.length (pt l i).zs → Own .i64 lo hi (put7 w1 b (j * 7) (pt l j) A (pt l j).zs.length c) f.1 (pt l i).zs.length (pt l i).zs := by
    intro i f lo hi hne hO
    refine ⟨hO.len, hO.wf, fun hp => ?_⟩
    obtain ⟨g, off, e1, e2, e3, e4⟩ := hO.here hp
    refine ⟨g, off, e1, e2, e3, fun t ht => ?_⟩
    have e := hout g (hne _ e1 hp)
    rw [cell_of_heap e, frozen_of_heap e]
    exact e4 t ht
  refine ⟨by rw [put7_size]; exact h'.lt, ⟨upd F j (A, c), fun i hi => ?_, h2.next (M := w.heap.size) (fun i hi x hx hp => (own_block (h1 i hi).body x hx hp).2) (fun x hx hp => (own_block ho x hx hp).1) (fun x hx hp => by have := (own_block ho x hx hp).1; omega)⟩, fun x hx => ?_⟩
  · rw [put7_size]
    by_cases he : i = j
    · subst he
      rw [upd_same]
      exact ⟨put7_cells _ _ _ _ _ _ (fun x hx => (h'.rest _ (by omega)).1), fun x hx => by rw [put7_frozen]; exact (h'.rest _ (by omega)).2,
        hbody i (A, c) b _ (fun x hx hp => by have := (own_block ho x hx hp).1; omega) (ho.more (by omega) (Nat.le_refl _)), hc, hm⟩
    · have hi' : i < j := by omega
      rw [upd_other _ _ he]
      have q := ((h1 i hi').keep (Nat.le_refl _) hlt (fun k hk _ _ => hb.block k hk))
      obtain ⟨c0, c1, c2, c3, c4, c5, c6⟩ := q.cells
      refine ⟨⟨?_, ?_, ?_, ?_, ?_, ?_, ?_⟩, fun x hx => by rw [put7_frozen]; exact q.free x hx, hbody i (F i) b _ (fun x hx hp => h2.1 i hi' x hx hp) (q.body.more (Nat.le_refl _) hsz), q.le, q.max⟩
      all_goals rw [put7_other _ _ _ _ _ _ _ _ (by omega)]; assumption
  · rw [put7_frozen]
    refine ⟨?_, (h'.rest x hx).2⟩
    by_cases hin : x < j * 7 ∨ j * 7 + 7 ≤ x
    · rw [put7_other _ _ _ _ _ _ _ _ hin]; exact (h'.rest x hx).1
    · obtain ⟨c0, c1, c2, c3, c4, c5, c6⟩ := put7_cells w1 b (j * 7) (pt l j) A c (fun y hy => (h'.rest _ (by omega)).1)
      have hx' : x = j * 7 ∨ x = j * 7 + 1 ∨ x = j * 7 + 2 ∨ x = j * 7 + 3 ∨ x = j * 7 + 4 ∨ x = j * 7 + 5 ∨ x = j * 7 + 6 := by omega
      rcases hx' with rfl | rfl | rfl | rfl | rfl | rfl | rfl
      · exact ⟨_, c0⟩
      · exact ⟨_, c1⟩
      · exact ⟨_, c2⟩
      · exact ⟨_, c3⟩
      · exact ⟨_, c4⟩
      · exact ⟨_, c5⟩
      · exact ⟨_, c6⟩
theorem Filled.own {b n : Nat} {l : List Prt} {w : World} (h : Filled b n l n w) (hl : l.length = n) (hw : ∀ P ∈ l, P.Wf) : POwn b w.heap.size w (some ⟨b, 0, none⟩) n l := by
  obtain ⟨F, h1, h2⟩ := h.held
  exact ⟨hl, hw, fun _ => ⟨b, 0, F, rfl, Nat.le_refl _, h.lt, fun i hi => by rw [Nat.zero_add]; exact h1 i hi, h2⟩⟩

/-- The cells of a list of parts. -/
def flat1 (P : Prt) (f : Body) : List Value := [.int .i64 P.d, .int .i64 P.k, .slice f.1 P.zs.length f.2, .int .i64 P.h, .int .i64 P.p, .int .i64 P.q, .int .i64 P.u]
def flat : List Prt → List Body → List Value
  | P :: l, f :: G => flat1 P f ++ flat l G
  | _, _ => []
theorem flat_length : ∀ (l : List Prt) (G : List Body), G.length = l.length → (flat l G).length = l.length * 7
  | [], [], _ => rfl
  | [], _ :: _, h => by simp at h
  | _ :: _, [], h => by simp at h
  | P :: l, f :: G, h => by simp only [flat, List.length_append, flat_length l G (by simpa using h), List.length_cons]; simp [flat1]; omega
theorem flat_append : ∀ (l l2 : List Prt) (G G2 : List Body), G.length = l.length → flat (l ++ l2) (G ++ G2) = flat l G ++ flat l2 G2
  | [], _, [], _, _ => rfl
  | [], _, _ :: _, _, h => by simp at h
  | _ :: _, _, [], _, h => by simp at h
  | P :: l, l2, f :: G, G2, h => by simp only [List.cons_append, flat, flat_append l l2 G G2 (by simpa using h), List.append_assoc]
theorem flat_take : ∀ (l : List Prt) (G : List Body) (k : Nat), G.length = l.length → (flat l G).take (k * 7) = flat (l.take k) (G.take k)
  | [], [], k, _ => by simp [flat]
  | [], _ :: _, _, h => by simp at h
  | _ :: _, [], _, h => by simp at h
  | P :: l, f :: G, 0, h => by simp [flat]
  | P :: l, f :: G, k + 1, h => by
    have e : (k + 1) * 7 = k * 7 + 1 + 1 + 1 + 1 + 1 + 1 + 1 := by omega
    simp only [List.take_succ_cons, flat, flat1, List.cons_append, List.nil_append]
    rw [e]
    simp only [List.take_succ_cons, flat_take l G k (by simpa using h)]
theorem flat_at : ∀ (l : List Prt) (G : List Body) (i x : Nat), G.length = l.length → i < l.length → x < 7 → (flat l G)[i * 7 + x]? = (flat1 (pt l i) (G.getD i noBody))[x]?
  | [], _, _, _, _, h, _ => by simp at h
  | _ :: _, [], _, _, h, _, _ => by simp at h
  | P :: l, f :: G, 0, x, h, _, hx => by
    simp only [flat, Nat.zero_mul, Nat.zero_add]
    rw [List.getElem?_append_left (by simp [flat1]; omega)]
    simp [pt]
  | P :: l, f :: G, i + 1, x, h, hi, hx => by
    simp only [flat]
    rw [List.getElem?_append_right (by simp [flat1]; omega), show (i + 1) * 7 + x - (flat1 P f).length = i * 7 + x by simp [flat1]; omega, flat_at l G i x (by simpa using h) (by simpa using hi) hx]
    simp [pt]
theorem flat_one : ∀ (l : List Prt) (G : List Body), ∀ u ∈ flat l G, u.oneCell' = true
  | [], _, u, h => by simp [flat] at h
  | _ :: _, [], u, h => by simp [flat] at h
  | P :: l, f :: G, u, h => by
    simp only [flat, List.mem_append] at h
    rcases h with h | h
    · simp only [flat1, List.mem_cons, List.not_mem_nil, or_false] at h
      rcases h with rfl | rfl | rfl | rfl | rfl | rfl | rfl <;> rfl
    · exact flat_one l G u h
/-- Cells that read as the parts of a list, in a row. -/
theorem flat_cells {w : World} {b off n : Nat} {l : List Prt} {G : List Body} (hG : G.length = l.length) (hl : l.length = n) (h : ∀ i, i < n → Cells7 w b (off + i * 7) (pt l i) (G.getD i noBody).1 (G.getD i noBody).2) :
    ∀ j u, (flat l G)[j]? = some u → w.cell? ((⟨b, off, none⟩ : Addr).add j) = some u := by
  intro j u hu
  have hj : j < n * 7 := by have := (List.getElem?_eq_some_iff.1 hu).1; rw [flat_length l G hG, hl] at this; exact this
  rw [add_pl]
  obtain ⟨c0, c1, c2, c3, c4, c5, c6⟩ := h (j / 7) (by omega)
  rw [show j = j / 7 * 7 + j % 7 by omega, flat_at l G (j / 7) (j % 7) hG (by omega) (by omega)] at hu
  have hx : j % 7 = 0 ∨ j % 7 = 1 ∨ j % 7 = 2 ∨ j % 7 = 3 ∨ j % 7 = 4 ∨ j % 7 = 5 ∨ j % 7 = 6 := by omega
  rw [show off + j = off + j / 7 * 7 + j % 7 by omega]
  rcases hx with e | e | e | e | e | e | e <;> rw [e] at hu ⊢ <;> simp only [flat1, List.getElem?_cons_zero, List.getElem?_cons_succ, Option.some.injEq] at hu <;> subst hu <;> first | exact c0 | exact c1 | exact c2 | exact c3 | exact c4 | exact c5 | exact c6

/-- A list of parts that a call builds: the cells are its own, the bodies lie in blocks of their own. -/
structure PBuf (T : TypeId) (base hi : Nat) (w : World) (v : Value) (n : Nat) (l : List Prt) (G : List Body) : Prop where
  len : l.length = n
  lenG : G.length = l.length
  row : w.ownsRow base T 7 v n (flat l G)
  lt : ∀ b, v.ownBlock = some b → b < hi
  wf : ∀ P ∈ l, P.Wf
  body : ∀ i, i < n → Own .i64 base hi w (G.getD i noBody).1 (pt l i).zs.length (pt l i).zs ∧ (pt l i).zs.length ≤ (G.getD i noBody).2 ∧ (G.getD i noBody).2 ≤ maxLen
  out : ∀ i, i < n → ∀ x, (G.getD i noBody).1 = some x → 0 < (pt l i).zs.length → v.ownBlock ≠ some x.block
  sep : ∀ i j, i < n → j < n → i ≠ j → ∀ x y, (G.getD i noBody).1 = some x → (G.getD j noBody).1 = some y → 0 < (pt l i).zs.length → 0 < (pt l j).zs.length → x.block ≠ y.block
def PBuf' (T : TypeId) (base hi : Nat) (w : World) (v : Value) (n : Nat) (l : List Prt) : Prop := ∃ G, PBuf T base hi w v n l G

section
variable {T : TypeId} {base hi n : Nat} {w w' : World} {v : Value} {l : List Prt} {G : List Body}
theorem PBuf.nil (T : TypeId) (base hi : Nat) (w : World) : PBuf T base hi w (.slice none 0 0) 0 [] [] :=
  ⟨rfl, rfl, World.ownsRow_nil _ _ _ _, fun b h => by simp [Value.ownBlock] at h, by simp, fun _ h => absurd h (by omega), fun _ h => absurd h (by omega), fun _ _ h => absurd h (by omega)⟩
theorem PBuf.made (T : TypeId) (base : Nat) (w : World) (hb : base ≤ w.heap.size) : PBuf T base (w.heap.size + 1) (w.alloc (.cells #[] T)) (.slice (some ⟨w.heap.size, 0, none⟩) 0 0) 0 [] [] :=
  ⟨rfl, rfl, by simpa [flat] using World.ownsRow_lit (e := T) (base := base) (size := 7) w #[] 0 hb (by simp) rfl, fun b h => by simp [Value.ownBlock] at h; omega, by simp, fun _ h => absurd h (by omega), fun _ h => absurd h (by omega), fun _ _ h => absurd h (by omega)⟩
theorem PBuf.keep (h : PBuf T base hi w v n l G) (hk : ∀ i, i < w.heap.size → base ≤ i → i < hi → w'.heap[i]? = w.heap[i]?) : PBuf T base hi w' v n l G := by
  refine ⟨h.len, h.lenG, ⟨h.row.1, ?_⟩, h.lt, h.wf, fun i hi' => ⟨(h.body i hi').1.keep hk, (h.body i hi').2⟩, h.out, h.sep⟩
  rcases h.row.2 with hn | ⟨g, cap, cur, rfl, hb, hgg, rest⟩
  · exact .inl hn
  · refine .inr ⟨g, cap, cur, rfl, hb, ?_, rest⟩
    rw [hk g (Array.getElem?_eq_some_iff.1 hgg).1 hb (h.lt g rfl)]
    exact hgg
theorem PBuf.under {B : Nat} (h : PBuf T base hi w v n l G) (hb : Below B w w') (hB : hi ≤ B) : PBuf T base hi w' v n l G := h.keep fun i _ _ h2 => hb.block i (by omega)
theorem PBuf.below (h : PBuf T base hi w v n l G) (hb : Below w.heap.size w w') : PBuf T base hi w' v n l G := h.keep fun i h0 _ _ => hb.block i h0
theorem PBuf.zone {lo' hi' : Nat} (h : PBuf T base hi w v n l G) (hz : Zone lo' hi' w w') (hd : hi ≤ lo' ∨ hi' ≤ base) : PBuf T base hi w' v n l G := h.keep fun i h0 h1 h2 => hz.block i h0 (by omega)
theorem PBuf.more {hi' : Nat} (h : PBuf T base hi w v n l G) (h2 : hi ≤ hi') : PBuf T base hi' w v n l G :=
  ⟨h.len, h.lenG, h.row, fun b hb => Nat.lt_of_lt_of_le (h.lt b hb) h2, h.wf, fun i hi' => ⟨(h.body i hi').1.more (Nat.le_refl _) h2, (h.body i hi').2⟩, h.out, h.sep⟩
theorem PBuf.down {base' : Nat} (h : PBuf T base hi w v n l G) (hle : base' ≤ base) : PBuf T base' hi w v n l G :=
  ⟨h.len, h.lenG, ⟨h.row.1, h.row.2.imp id (fun ⟨g, cap, cur, hv, hb, rest⟩ => ⟨g, cap, cur, hv, Nat.le_trans hle hb, rest⟩)⟩, h.lt, h.wf, fun i hi' => ⟨(h.body i hi').1.more hle (Nat.le_refl _), (h.body i hi').2⟩, h.out, h.sep⟩
theorem PBuf.cells (h : PBuf T base hi w v n l G) {g c : Nat} (hv : v = .slice (some ⟨g, 0, none⟩) n c) : ∀ i, i < n → Cells7 w g (i * 7) (pt l i) (G.getD i noBody).1 (G.getD i noBody).2 := by
  subst hv
  intro i hi
  have hl := h.len
  have key : ∀ x, x < 7 → w.cell? ⟨g, i * 7 + x, none⟩ = (flat1 (pt l i) (G.getD i noBody))[x]? := fun x hx => by
    rw [h.row.cellAt _ (by omega), flat_at l G i x h.lenG (by omega) hx]
  exact ⟨key 0 (by omega), key 1 (by omega), key 2 (by omega), key 3 (by omega), key 4 (by omega), key 5 (by omega), key 6 (by omega)⟩
theorem PBuf.shape (h : PBuf T base hi w v n l G) : ∃ a c, v = .slice a n c ∧ n ≤ c ∧ c ≤ maxLen ∧ POwn base hi w a n l := by
  rcases h.row.2 with ⟨rfl, rfl⟩ | ⟨g, cap, cur, rfl, hb, hg, hnc, hcm, hcs, _⟩
  · exact ⟨none, 0, rfl, Nat.le_refl _, Nat.zero_le _, h.len, h.wf, fun h0 => absurd h0 (by omega)⟩
  · refine ⟨_, cap, rfl, hnc, hcm, h.len, h.wf, fun _ => ⟨g, 0, fun i => G.getD i noBody, rfl, hb, h.lt g rfl, fun i hi => ?_, ?_⟩⟩
    · rw [Nat.zero_add]
      exact ⟨h.cells rfl i hi, fun x hx => h.row.frozenAt _, (h.body i hi).1, (h.body i hi).2.1, (h.body i hi).2.2⟩
    · exact ⟨fun i hi x hx hp he => h.out i hi x hx hp (by simp [Value.ownBlock, he]), h.sep⟩
theorem PBuf.slice (h : PBuf T base hi w v n l G) : ∃ a c, v = .slice a n c := by
  obtain ⟨a, c, e, _⟩ := h.shape
  exact ⟨a, c, e⟩
theorem PBuf.take {A : Option Addr} {c : Nat} (h : PBuf T base hi w (.slice A n c) n l G) {k : Nat} (hk : k ≤ n) : PBuf T base hi w (.slice A k c) k (l.take k) (G.take k) := by
  have hl := h.len
  have hG := h.lenG
  have hp : ∀ i, i < k → pt (l.take k) i = pt l i := fun i hi => by simp [pt, List.getD_eq_getElem?_getD, List.getElem?_take_of_lt hi]
  have hq : ∀ i, i < k → (G.take k).getD i noBody = G.getD i noBody := fun i hi => by simp [List.getD_eq_getElem?_getD, List.getElem?_take_of_lt hi]
  refine ⟨by simp; omega, by simp; omega, ⟨by rw [flat_length _ _ (by simp; omega)]; simp; omega, ?_⟩, fun b hb => h.lt b (by cases A with | none => cases hb | some x => exact hb), fun P hP => h.wf P (List.mem_of_mem_take hP), fun i hi => ?_, fun i hi x hx hpx => ?_, fun i j hi hj hne x y hx hy hpx hpy => ?_⟩
  · rcases h.row.2 with ⟨e, rfl⟩ | ⟨g, cap, cur, e, hb, hg, hnc, hcm, hcs, ht⟩
    · injection e with e1 _ e3
      subst e1 e3
      left
      rw [show k = 0 by omega]
      exact ⟨rfl, rfl⟩
    · injection e with e1 _ e3
      subst e1 e3
      refine .inr ⟨g, c, cur, rfl, hb, hg, by omega, hcm, hcs, ?_⟩
      rw [← flat_take l G k hG, ← ht, List.take_take]
      congr 1
      omega
  · rw [hp i hi, hq i hi]; exact h.body i (by omega)
  · rw [hp i hi] at hpx; rw [hq i hi] at hx
    have := h.out i (by omega) x hx hpx
    cases A with
    | none => simp [Value.ownBlock]
    | some y => exact this
  · rw [hp i hi] at hpx; rw [hq i hi] at hx; rw [hp j hj] at hpy; rw [hq j hj] at hy
    exact h.sep i j (by omega) (by omega) hne x y hx hy hpx hpy
theorem pt_left {l l2 : List Prt} {i : Nat} (h : i < l.length) : pt (l ++ l2) i = pt l i := by simp [pt, List.getD_eq_getElem?_getD, List.getElem?_append_left h]
theorem pt_right {l l2 : List Prt} {i : Nat} (h : l.length ≤ i) : pt (l ++ l2) i = pt l2 (i - l.length) := by simp [pt, List.getD_eq_getElem?_getD, List.getElem?_append_right h]
theorem body_left {G G2 : List Body} {i : Nat} (h : i < G.length) : (G ++ G2).getD i noBody = G.getD i noBody := by simp [List.getD_eq_getElem?_getD, List.getElem?_append_left h]
theorem body_right {G G2 : List Body} {i : Nat} (h : G.length ≤ i) : (G ++ G2).getD i noBody = G2.getD (i - G.length) noBody := by simp [List.getD_eq_getElem?_getD, List.getElem?_append_right h]
/-- What an append makes of it: parts whose bodies lie behind what was there. -/
theorem PBuf.join {M m : Nat} {l2 : List Prt} {G2 : List Body} {v' : Value} (h : PBuf T base M w v n l G) (hbM : base ≤ M) (hr : w'.ownsRow base T 7 v' (n + m) (flat (l ++ l2) (G ++ G2))) (hg : w.grownBy w' v.ownBlock) (hat : v'.ownBlock = v.ownBlock ∨ v'.ownBlock = some w.heap.size) (hM : M ≤ w.heap.size)
    (hl2 : l2.length = m) (hG2 : G2.length = l2.length) (hwf : ∀ P ∈ l2, P.Wf) (hb2 : ∀ i, i < m → Own .i64 M w.heap.size w (G2.getD i noBody).1 (pt l2 i).zs.length (pt l2 i).zs ∧ (pt l2 i).zs.length ≤ (G2.getD i noBody).2 ∧ (G2.getD i noBody).2 ≤ maxLen)
    (hs2 : ∀ i j, i < m → j < m → i ≠ j → ∀ x y, (G2.getD i noBody).1 = some x → (G2.getD j noBody).1 = some y → 0 < (pt l2 i).zs.length → 0 < (pt l2 j).zs.length → x.block ≠ y.block) :
    PBuf T base w'.heap.size w' v' (n + m) (l ++ l2) (G ++ G2) := by
  have hl := h.len
  have hG := h.lenG
  have hsz := hg.size
  have hlt : ∀ b, v'.ownBlock = some b → b < w'.heap.size := fun b hb => (hr.lt b hb).2
  have hkeep : ∀ (lo hi : Nat) (a : Option Addr) (k : Nat) (zs : List Int), (∀ x, a = some x → 0 < k → v.ownBlock ≠ some x.block) → Own .i64 lo hi w a k zs → hi ≤ w.heap.size → Own .i64 lo w'.heap.size w' a k zs := by
    intro lo hi a k zs hne hO hh
    refine ⟨hO.len, hO.wf, fun hp => ?_⟩
    obtain ⟨g, off, e1, e2, e3, e4⟩ := hO.here hp
    refine ⟨g, off, e1, e2, by omega, fun t ht => ?_⟩
    have e := hg.block g (by omega) (fun e => hne _ e1 hp e.symm)
    rw [cell_of_heap e, frozen_of_heap e]
    exact e4 t ht
  refine ⟨by simp; omega, by simp; omega, hr, hlt, fun P hP => by
    rcases List.mem_append.1 hP with q | q
    · exact h.wf P q
    · exact hwf P q, fun i hi => ?_, fun i hi x hx hp => ?_, fun i j hi hj hne x y hx hy hpx hpy => ?_⟩
  · by_cases hin : i < n
    · rw [pt_left (by omega), body_left (by omega)]
      exact ⟨hkeep _ _ _ _ _ (fun x hx hp => h.out i hin x hx hp) (h.body i hin).1 hM, (h.body i hin).2⟩
    · rw [pt_right (by omega), body_right (by omega), hG, hl]
      have q := hb2 (i - n) (by omega)
      exact ⟨(hkeep _ _ _ _ _ (fun x hx hp e => by have a1 := h.lt _ e; have a2 := (own_block q.1 x hx hp).1; omega) q.1 (Nat.le_refl _)).more hbM (Nat.le_refl _), q.2⟩
  · have hxb : x.block < w.heap.size ∧ v.ownBlock ≠ some x.block := by
      by_cases hin : i < n
      · rw [pt_left (by omega)] at hp; rw [body_left (by omega)] at hx
        have a1 := (own_block (h.body i hin).1 x hx hp).2
        exact ⟨by omega, h.out i hin x hx hp⟩
      · rw [pt_right (by omega), hl] at hp; rw [body_right (by omega), hG, hl] at hx
        have q := hb2 (i - n) (by omega)
        have a2 := own_block q.1 x hx hp
        exact ⟨a2.2, fun e => by have a1 := h.lt _ e; omega⟩
    rcases hat with e | e
    · rw [e]; exact hxb.2
    · rw [e]; intro e2; injection e2 with e2; omega
  · by_cases hin : i < n
    · rw [pt_left (by omega)] at hpx; rw [body_left (by omega)] at hx
      by_cases hjn : j < n
      · rw [pt_left (by omega)] at hpy; rw [body_left (by omega)] at hy
        exact h.sep i j hin hjn hne x y hx hy hpx hpy
      · rw [pt_right (by omega), hl] at hpy; rw [body_right (by omega), hG, hl] at hy
        have a1 := own_block (h.body i hin).1 x hx hpx
        have a2 := own_block (hb2 (j - n) (by omega)).1 y hy hpy
        omega
    · rw [pt_right (by omega), hl] at hpx; rw [body_right (by omega), hG, hl] at hx
      by_cases hjn : j < n
      · rw [pt_left (by omega)] at hpy; rw [body_left (by omega)] at hy
        have a1 := own_block (h.body j hjn).1 y hy hpy
        have a2 := own_block (hb2 (i - n) (by omega)).1 x hx hpx
        omega
      · rw [pt_right (by omega), hl] at hpy; rw [body_right (by omega), hG, hl] at hy
        exact hs2 (i - n) (j - n) (by omega) (by omega) (by omega) x y hx hy hpx hpy
end
end Go.Proofs.YtedjclnojocjkaaGreatDoor.Parts
