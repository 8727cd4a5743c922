/-
  Words for rows of integers in memory: a slice that reads as a list of integers inside a zone of blocks; what keeps it so.
  Conditions: none; nothing of the program stands here.
-/
import Derived.Below
import Derived.OneCell
import Derived.Laws.Rows
import Derived.Laws.OwnMore
import Derived.OwnWalk
import Derived.Deep.Draws
import Derived.Lib.Hide
import Derived.Laws.AppendOwnNone
import Derived.Laws.BytesArg
import Derived.OpenShut
namespace Go.Proofs.YtpemjlmopnndbaaDoor.Mem
open Go Go.RowKit

/-- The slice '.slice a n _' reads as the integers zs of kind k; its cells lie in blocks from lo on and below hi. -/
structure Row (k : IntKind) (lo hi : Nat) (w : World) (a : Option Addr) (n : Nat) (zs : List Int) : Prop where
  len : zs.length = n
  wf : ∀ z ∈ zs, (Lit.int k z).wf = true
  here : 0 < n → ∃ b off, a = some ⟨b, off, none⟩ ∧ lo ≤ b ∧ b < hi ∧ ∀ j, j < n → w.cell? ⟨b, off + j, none⟩ = some (.int k (zs.getD j 0))

/-- The same of a row that may be written. -/
structure Own (k : IntKind) (lo hi : Nat) (w : World) (a : Option Addr) (n : Nat) (zs : List Int) : Prop where
  len : zs.length = n
  wf : ∀ z ∈ zs, (Lit.int k z).wf = true
  here : 0 < n → ∃ b off, a = some ⟨b, off, none⟩ ∧ lo ≤ b ∧ b < hi ∧ ∀ j, j < n → w.cell? ⟨b, off + j, none⟩ = some (.int k (zs.getD j 0)) ∧ w.frozen? ⟨b, off + j, none⟩ = false

/-- Of the blocks that were there, those from lo on and below hi alone may have changed. -/
structure Zone (lo hi : Nat) (w w' : World) : Prop where
  os : w'.os = w.os
  tape : w'.tape = w.tape
  output : w'.output = w.output
  size : w.heap.size ≤ w'.heap.size
  block : ∀ k, k < w.heap.size → (k < lo ∨ hi ≤ k) → w'.heap[k]? = w.heap[k]?

theorem cell_of_heap {w w' : World} {b o : Nat} (h : w'.heap[b]? = w.heap[b]?) : w'.cell? ⟨b, o, none⟩ = w.cell? ⟨b, o, none⟩ := by
  unfold World.cell?; simp only; rw [h]
theorem frozen_of_heap {w w' : World} {b o : Nat} (h : w'.heap[b]? = w.heap[b]?) : w'.frozen? ⟨b, o, none⟩ = w.frozen? ⟨b, o, none⟩ := by
  unfold World.frozen?; simp only; rw [h]
theorem cell_lt {w : World} {b o : Nat} {v : Value} (h : w.cell? ⟨b, o, none⟩ = some v) : b < w.heap.size := by
  unfold World.cell? at h
  simp only at h
  cases hx : w.heap[b]? with
  | none => rw [hx] at h; simp at h
  | some x => exact (Array.getElem?_eq_some_iff.1 hx).1

section
variable {k : IntKind} {lo hi B n : Nat} {w w' w1 w2 : World} {a : Option Addr} {zs : List Int}
theorem Own.row (h : Own k lo hi w a n zs) : Row k lo hi w a n zs :=
  ⟨h.len, h.wf, fun hn => by obtain ⟨b, off, h1, h2, h3, h4⟩ := h.here hn; exact ⟨b, off, h1, h2, h3, fun j hj => (h4 j hj).1⟩⟩
theorem Row.more {lo' hi' : Nat} (h : Row k lo hi w a n zs) (h1 : lo' ≤ lo) (h2 : hi ≤ hi') : Row k lo' hi' w a n zs :=
  ⟨h.len, h.wf, fun hn => by obtain ⟨b, off, a1, a2, a3, a4⟩ := h.here hn; exact ⟨b, off, a1, by omega, by omega, a4⟩⟩
theorem Own.more {lo' hi' : Nat} (h : Own k lo hi w a n zs) (h1 : lo' ≤ lo) (h2 : hi ≤ hi') : Own k lo' hi' w a n zs :=
  ⟨h.len, h.wf, fun hn => by obtain ⟨b, off, a1, a2, a3, a4⟩ := h.here hn; exact ⟨b, off, a1, by omega, by omega, a4⟩⟩
theorem Row.keep (h : Row k lo hi w a n zs) (hk : ∀ i, i < w.heap.size → lo ≤ i → i < hi → w'.heap[i]? = w.heap[i]?) : Row k lo hi w' a n zs :=
  ⟨h.len, h.wf, fun hn => by
    obtain ⟨b, off, a1, a2, a3, a4⟩ := h.here hn
    exact ⟨b, off, a1, a2, a3, fun j hj => by rw [cell_of_heap (hk b (cell_lt (a4 j hj)) a2 a3)]; exact a4 j hj⟩⟩
theorem Own.keep (h : Own k lo hi w a n zs) (hk : ∀ i, i < w.heap.size → lo ≤ i → i < hi → w'.heap[i]? = w.heap[i]?) : Own k lo hi w' a n zs :=
  ⟨h.len, h.wf, fun hn => by
    obtain ⟨b, off, a1, a2, a3, a4⟩ := h.here hn
    exact ⟨b, off, a1, a2, a3, fun j hj => by
      have e := hk b (cell_lt (a4 j hj).1) a2 a3
      rw [cell_of_heap e, frozen_of_heap e]; exact a4 j hj⟩⟩
theorem Row.below (h : Row k lo hi w a n zs) (hb : Below w.heap.size w w') : Row k lo hi w' a n zs := h.keep fun i hi _ _ => hb.block i hi
theorem Own.below (h : Own k lo hi w a n zs) (hb : Below w.heap.size w w') : Own k lo hi w' a n zs := h.keep fun i hi _ _ => hb.block i hi
theorem Row.under (h : Row k lo hi w a n zs) (hb : Below B w w') (hB : hi ≤ B) : Row k lo hi w' a n zs := h.keep fun i _ _ h2 => hb.block i (by omega)
theorem Own.under (h : Own k lo hi w a n zs) (hb : Below B w w') (hB : hi ≤ B) : Own k lo hi w' a n zs := h.keep fun i _ _ h2 => hb.block i (by omega)
theorem Row.zone {lo' hi' : Nat} (h : Row k lo hi w a n zs) (hz : Zone lo' hi' w w') (hd : hi ≤ lo' ∨ hi' ≤ lo) : Row k lo hi w' a n zs := h.keep fun i h0 h1 h2 => hz.block i h0 (by omega)
theorem Own.zone {lo' hi' : Nat} (h : Own k lo hi w a n zs) (hz : Zone lo' hi' w w') (hd : hi ≤ lo' ∨ hi' ≤ lo) : Own k lo hi w' a n zs := h.keep fun i h0 h1 h2 => hz.block i h0 (by omega)
theorem Row.drewN (h : Row k lo hi w a n zs) (m : Nat) : Row k lo hi (w.drewN m) a n zs := h.keep fun _ _ _ _ => rfl
theorem Own.drewN (h : Own k lo hi w a n zs) (m : Nat) : Own k lo hi (w.drewN m) a n zs := h.keep fun _ _ _ _ => rfl
theorem Row.nil (k : IntKind) (lo hi : Nat) (w : World) (a : Option Addr) : Row k lo hi w a 0 [] := ⟨rfl, by simp, fun h => absurd h (by omega)⟩
theorem Own.nil (k : IntKind) (lo hi : Nat) (w : World) (a : Option Addr) : Own k lo hi w a 0 [] := ⟨rfl, by simp, fun h => absurd h (by omega)⟩
theorem Row.cell (h : Row k lo hi w a n zs) {j : Nat} (hj : j < n) : ∃ b off, a = some ⟨b, off, none⟩ ∧ lo ≤ b ∧ b < hi ∧ w.cell? ⟨b, off + j, none⟩ = some (.int k (zs.getD j 0)) := by
  obtain ⟨b, off, a1, a2, a3, a4⟩ := h.here (by omega)
  exact ⟨b, off, a1, a2, a3, a4 j hj⟩
theorem Row.wf_at (h : Row k lo hi w a n zs) {j : Nat} (hj : j < n) : (Lit.int k (zs.getD j 0)).wf = true := by
  refine h.wf _ ?_
  have := h.len
  rw [List.getD_eq_getElem?_getD, List.getElem?_eq_getElem (by omega)]
  exact List.getElem_mem _
theorem getD_map_int (zs : List Int) (k : IntKind) (j : Nat) (hj : j < zs.length) : (zs.map (Value.int k))[j]? = some (.int k (zs.getD j 0)) := by
  rw [List.getElem?_map, List.getElem?_eq_getElem hj, List.getD_eq_getElem?_getD, List.getElem?_eq_getElem hj]; rfl

/-- A row of the call's own, as the library's append leaves it. -/
theorem Own.of_row {base e : Nat} {v : Value} (h : w.ownsRow base e 1 v n (zs.map (Value.int k))) (hwf : ∀ z ∈ zs, (Lit.int k z).wf = true) :
    ∃ a c, v = .slice a n c ∧ n ≤ c ∧ c ≤ maxLen ∧ Own k base w.heap.size w a n zs := by
  have hl : zs.length = n := by have := h.1; simpa using this
  rcases h.2 with ⟨rfl, rfl⟩ | ⟨g, cap, cur, rfl, hb, hg, hnc, hcm, hcs, _⟩
  · exact ⟨none, 0, rfl, Nat.le_refl _, Nat.zero_le _, ⟨hl, hwf, fun h => absurd h (by omega)⟩⟩
  · refine ⟨_, cap, rfl, hnc, hcm, ⟨hl, hwf, fun _ => ⟨g, 0, rfl, hb, (Array.getElem?_eq_some_iff.1 hg).1, fun j hj => ⟨?_, ?_⟩⟩⟩⟩
    · rw [Nat.zero_add, h.cellAt j (by omega), getD_map_int _ _ _ (by omega)]
    · exact h.frozenAt _
end

theorem Zone.refl (lo hi : Nat) (w : World) : Zone lo hi w w := ⟨rfl, rfl, rfl, Nat.le_refl _, fun _ _ _ => rfl⟩
theorem Zone.of_below {lo hi : Nat} {w w' : World} (h : Below w.heap.size w w') : Zone lo hi w w' := ⟨h.os, h.tape, h.output, h.size, fun k hk _ => h.block k hk⟩
theorem Zone.below {lo hi B : Nat} {w w' : World} (h : Zone lo hi w w') (hB : B ≤ lo) (hw : B ≤ w.heap.size) : Below B w w' :=
  ⟨h.os, h.tape, h.output, h.size, fun k hk => h.block k (by omega) (by omega)⟩
theorem Zone.trans {lo hi : Nat} {a b c : World} (h : Zone lo hi a b) (k : Zone lo hi b c) : Zone lo hi a c :=
  ⟨k.os.trans h.os, k.tape.trans h.tape, k.output.trans h.output, Nat.le_trans h.size k.size, fun i hi hp => (k.block i (Nat.lt_of_lt_of_le hi h.size) hp).trans (h.block i hi hp)⟩
theorem Zone.setCell {lo hi : Nat} {w w' : World} (h : Zone lo hi w w') {b o : Nat} (hb : lo ≤ b ∧ b < hi) (v : Value) : Zone lo hi w (w'.setCell ⟨b, o, none⟩ v) :=
  ⟨h.os, h.tape, h.output, by show w.heap.size ≤ (w'.heap.modify b _).size; rw [Array.size_modify]; exact h.size, fun k hk hp => (heap_setCell_other w' ⟨b, o, none⟩ k v (by show k ≠ b; omega)).trans (h.block k hk hp)⟩
theorem Zone.drewN {lo hi : Nat} {w w' : World} (h : Zone lo hi w w') (n : Nat) : Zone lo hi w (w'.drewN n) := ⟨h.os, h.tape, h.output, h.size, h.block⟩
theorem below_drewN {B : Nat} {a w : World} (h : Below B a w) (n : Nat) : Below B a (w.drewN n) := ⟨h.os, h.tape, h.output, h.size, h.block⟩

/-- What a mark leaves: k0, k0 + 1, .., each in the kind's range. -/
def marks (k : IntKind) (k0 n : Nat) : List Int := (List.range n).map fun i => k.wrap ((k0 + i : Nat) : Int)
theorem marks_len (k : IntKind) (k0 n : Nat) : (marks k k0 n).length = n := by simp [marks]
theorem marks_at (k : IntKind) (k0 n j : Nat) (hj : j < n) : (marks k k0 n).getD j 0 = k.wrap ((k0 + j : Nat) : Int) := by
  simp [marks, List.getD_eq_getElem?_getD, hj]
def half (k : IntKind) (k0 j : Nat) (zs : List Int) : List Int := marks k k0 j ++ zs.drop j
theorem half_len (k : IntKind) (k0 j : Nat) (zs : List Int) (h : j ≤ zs.length) : (half k k0 j zs).length = zs.length := by simp [half, marks_len]; omega

/-- A slice that came in, as the row of a law reads it. -/
theorem Row.of_came {k : IntKind} {w : World} {a : Option Addr} {len cap : Nat} {zs : List Int}
    (h : (a = none ∧ len = 0 ∧ cap = 0 ∧ zs = []) ∨
      ∃ x, a = some x ∧ len ≤ cap ∧ cap ≤ maxLen ∧ zs.length = cap ∧ (∀ i, i < zs.length → w.cell? (x.add i) = some (.int k (zs.getD i 0))) ∧ ∀ n ∈ zs, (Lit.int k n).wf = true) :
    Row k 0 w.heap.size w a len (zs.take len) := by
  rcases h with ⟨rfl, rfl, rfl, rfl⟩ | ⟨⟨b, off, spot⟩, rfl, hl, hm, hz, hcell, hwz⟩
  · exact Row.nil _ _ _ _ _
  · refine ⟨by simp; omega, fun z hz => hwz z (List.mem_of_mem_take hz), fun hn => ?_⟩
    have hspot : spot = none := by
      have h0 := hcell 0 (by omega)
      simpa [Addr.add] using World.cell?_spot h0
    subst hspot
    have h0 := hcell 0 (by omega)
    rw [show (⟨b, off, none⟩ : Addr).add 0 = ⟨b, off, none⟩ from rfl] at h0
    refine ⟨b, off, rfl, Nat.zero_le _, cell_lt h0, fun j hj => ?_⟩
    have h1 := hcell j (by omega)
    rw [show (⟨b, off, none⟩ : Addr).add j = ⟨b, off + j, none⟩ by unfold Addr.add; split <;> simp_all] at h1
    rw [h1, List.getD_eq_getElem?_getD, List.getD_eq_getElem?_getD, List.getElem?_take_of_lt hj]

/-- 'string(b)' of a row of bytes. -/
theorem Row.convert {P : Program} {lo hi : Nat} {w : World} {a : Option Addr} {n : Nat} {zs : List Int} (h : Row .u8 lo hi w a n zs) (c : Nat) (src e dst : TypeId)
    (hs : P.underlying src = some (.slice e)) (he : P.underlying e = some (.int .u8)) (hd : P.underlying dst = some .string) :
    (convert src dst (.slice a n c)).run P w = .ok (.string (strOfNums zs)) w := by
  rcases Nat.eq_zero_or_pos n with hn | hn
  · subst hn
    obtain rfl : zs = [] := List.eq_nil_of_length_eq_zero h.len
    rcases a with _ | ad
    · exact run_convert_bytes_nil w src e hs he 0 c dst hd
    · have hl : (loadCells ad 0).run P w = .ok (([] : List Int).map (Value.int .u8)).toArray w := by
        simpa using run_loadCells_list (P := P) w ad [] (fun j v hj => by simp at hj)
      rw [run_convert_bytes_string w src dst e _ 0 c hs he hd, run_bytesToString w _ 0 c [] hl]
      rfl
  · obtain ⟨b, o, rfl, _, _, hc⟩ := h.here hn
    exact run_convert_bytes_arg (P := P) w src e hs he b o n c zs h.len hc dst hd
theorem strOfNums_inj : ∀ {xs ys : List Int}, (∀ z ∈ xs, (Lit.int .u8 z).wf = true) → (∀ z ∈ ys, (Lit.int .u8 z).wf = true) → (strOfNums xs).data.toList = (strOfNums ys).data.toList → xs = ys := by
  intro xs
  induction xs with
  | nil => intro ys _ _ h; cases ys with
    | nil => rfl
    | cons y ys => simp [strOfNums] at h
  | cons x xs ih => intro ys hx hy h; cases ys with
    | nil => simp [strOfNums] at h
    | cons y ys =>
      rw [strOfNums_data, strOfNums_data] at h
      simp only [List.map_cons, List.cons.injEq] at h
      obtain ⟨h1, h2⟩ := h
      have bx := bounds_u8 (hx x (by simp))
      have byy := bounds_u8 (hy y (by simp))
      have h3 := congrArg UInt8.toNat h1
      simp only [UInt8.toNat_ofNat'] at h3
      have h4 : xs = ys := ih (ys := ys) (fun z hz => hx z (List.mem_cons_of_mem _ hz)) (fun z hz => hy z (List.mem_cons_of_mem _ hz)) (by rw [strOfNums_data, strOfNums_data]; exact h2)
      rw [h4]
      congr 1
      omega

/-- What a call hands back: a row of its own; with two numbers more. -/
def Slice3 (k : IntKind) (lo : Nat) (n : Nat) (zs : List Int) (q : Int) (b : Bool) (w : World) (e : Ending) (w' : World) : Prop :=
  ∃ a c, e = .returned (.tuple #[.slice a n c, .int .i64 q, .bool b]) ∧ Own k lo w'.heap.size w' a n zs ∧ n ≤ c ∧ c ≤ maxLen ∧ Below lo w w'
def Slice (k : IntKind) (lo : Nat) (n : Nat) (zs : List Int) (w : World) (e : Ending) (w' : World) : Prop :=
  ∃ a c, e = .returned (.slice a n c) ∧ Own k lo w'.heap.size w' a n zs ∧ n ≤ c ∧ c ≤ maxLen ∧ Below lo w w'

/-- A row of integers of the call's own, from block base on. -/
def OwnI (k : IntKind) (e : TypeId) (base : Nat) (w : World) (v : Value) (n : Nat) (zs : List Int) : Prop := w.ownsRow base e 1 v n (zs.map (Value.int k))

section
variable {k : IntKind} {e : TypeId} {base n : Nat} {w w' : World} {v : Value} {zs : List Int}
theorem OwnI.grown {row : World} (h : OwnI k e base w v n zs) (hg : w.grownBy row v.ownBlock) (hB : base ≤ w.heap.size) : Below base w row :=
  (Below.refl _ _).grown hg hB fun i hi => (World.ownsRow.lt h i hi).1
theorem OwnI.nil (k : IntKind) (e : TypeId) (base : Nat) (w : World) : OwnI k e base w (.slice none 0 0) 0 [] := World.ownsRow_nil _ _ _ _
theorem OwnI.lit (k : IntKind) (e : TypeId) {base : Nat} (w : World) (zs : List Int) (hb : base ≤ w.heap.size) (hm : zs.length ≤ maxLen) :
    OwnI k e base (w.alloc (.cells (zs.map (Value.int k)).toArray e)) (.slice (some ⟨w.heap.size, 0, none⟩) zs.length zs.length) zs.length zs := by
  have := World.ownsRow_lit (e := e) (base := base) (size := 1) w (zs.map (Value.int k)).toArray zs.length hb hm (by simp)
  simpa [OwnI] using this
theorem OwnI.made (k : IntKind) (e : TypeId) {base : Nat} (w : World) (hb : base ≤ w.heap.size) : OwnI k e base (w.alloc (.cells #[] e)) (.slice (some ⟨w.heap.size, 0, none⟩) 0 0) 0 [] :=
  OwnI.lit k e w [] hb (by simp)
theorem OwnI.len (h : OwnI k e base w v n zs) : zs.length = n := by have := h.1; simpa using this
theorem OwnI.alloc (h : OwnI k e base w v n zs) (o : Obj) : OwnI k e base (w.alloc o) v n zs := World.ownsRow.alloc h o
theorem OwnI.drewN (h : OwnI k e base w v n zs) (m : Nat) : OwnI k e base (w.drewN m) v n zs := h
theorem OwnI.below (h : OwnI k e base w v n zs) (hb : Below w.heap.size w w') : OwnI k e base w' v n zs :=
  World.ownsRow.kept h (row := none) ⟨hb.os, hb.tape, hb.output, hb.size, fun i hi _ => hb.block i hi⟩ (by cases hv : v.ownBlock <;> simp)
theorem OwnI.own (h : OwnI k e base w v n zs) (hwf : ∀ z ∈ zs, (Lit.int k z).wf = true) : ∃ a c, v = .slice a n c ∧ n ≤ c ∧ c ≤ maxLen ∧ Own k base w.heap.size w a n zs := Own.of_row h hwf

theorem add_pl (b o i : Nat) : (⟨b, o, none⟩ : Addr).add i = ⟨b, o + i, none⟩ := by unfold Addr.add; split <;> simp_all

theorem run_append_none {P : Program} (t ty : TypeId) (i : TypeInfo) (ht : P.underlying t = some (.slice e)) (hi : P.info? e = some i) (c : Nat) (h : OwnI k e base w v n zs) :
    (Builtin.append_ #[t, t] ty #[v, .slice none 0 c]).run P w = .ok v w := by
  rcases h.2 with ⟨rfl, rfl⟩ | ⟨g, cap, cur, rfl, _, _, hnc, _⟩
  · simp [Builtin.append_, run_underlying ht, sizeOf, typeInfo, hi, Builtin.lenOf, Builtin.firstCells]
  · simp [Builtin.append_, run_underlying ht, sizeOf, typeInfo, hi, Builtin.lenOf, Builtin.firstCells, hnc, storeCells]

/-- An append of any row of integers, nil or not, onto a row of the call's own. -/
theorem wpList_append_row {P : Program} {ops : Array Oper} {rest : List Oper} {o : Oper} {a : Act} {Q : Exit → Act → World → Prop} (hgd : o.guard = none) (s x : Operand) (t : TypeId)
    (ho : o.op = .call { callee := .builtin .append, args := #[s, x], argTypes := #[t, t] })
    (base e : Nat) (i : TypeInfo) (z : Value) (bytes : Nat) (ht : P.underlying t = some (.slice e)) (hi : P.info? e = some i) (hz : i.zero = some z)
    (hsize : i.size = 1) (hby : i.bytes = bytes) (hzs : z.cells.size = 1)
    (v : Value) (n : Nat) (xs : List Int) (hs : a.eval s = v) (hown : OwnI k e base w v n xs)
    (lo hi' : Nat) (A : Option Addr) (m c : Nat) (zs : List Int) (hx : a.eval x = .slice A m c) (hr : Row k lo hi' w A m zs)
    (h63 : n + m ≤ maxLen) (hbytes : (n + m) * bytes ≤ 140737488355328) (hbase : base ≤ w.heap.size)
    (h : ∀ v' w', OwnI k e base w' v' (n + m) (xs ++ zs) → Below base w w' → wpList P ops Q rest (a.put o.dst v') w') : wpList P ops Q (o :: rest) a w := by
  have hl := hr.len
  rcases A with _ | ad
  · have hm : m = 0 := by
      rcases Nat.eq_zero_or_pos m with h0 | h0
      · exact h0
      · obtain ⟨b, off, h, _⟩ := hr.here h0; cases h
    subst hm
    obtain rfl := List.eq_nil_of_length_eq_zero hl
    have hrun := run_append_none (P := P) t o.type i ht hi c hown
    refine wpList_plain hgd fun K hK => ?_
    unfold Oper.wp
    simp [execOp, ho, resolve, invoke, builtin, hs, hx, hrun, Result.andThen]
    exact hK _ _ (h v w (by simpa using hown) (Below.refl _ _))
  · refine wpList_append_own w hgd s x t ho base e i z 1 bytes ht hi hz hsize hby hzs (by omega) v n _ hs hown ad m c (zs.map (Value.int k)) hx (by simpa using hl) ?_ (ints_oneCell k zs) h63 hbytes hbase ?_
    · intro j u hu
      have hj : j < m := by
        have := (List.getElem?_eq_some_iff.1 hu).1
        simp at this; omega
      obtain ⟨b, off, hab, _, _, hc⟩ := hr.cell hj
      injection hab with hab
      subst hab
      rw [getD_map_int _ _ _ (by omega)] at hu
      injection hu with hu
      subst hu
      rw [add_pl]; exact hc
    · intro v' w' h2 h3 _
      exact h v' w' (by unfold OwnI; rw [List.map_append]; exact h2) (OwnI.grown hown h3 hbase)

/-- An append of one number. -/
theorem wpList_append_one {P : Program} {ops : Array Oper} {rest : List Oper} {o : Oper} {a : Act} {Q : Exit → Act → World → Prop} (hgd : o.guard = none) (s x : Operand) (t : TypeId)
    (ho : o.op = .call { callee := .builtin .append, args := #[s, x], argTypes := #[t, t] })
    (base e : Nat) (i : TypeInfo) (z : Value) (bytes : Nat) (ht : P.underlying t = some (.slice e)) (hi : P.info? e = some i) (hz : i.zero = some z)
    (hsize : i.size = 1) (hby : i.bytes = bytes) (hzs : z.cells.size = 1)
    (v : Value) (n : Nat) (xs : List Int) (hs : a.eval s = v) (hown : OwnI k e base w v n xs)
    (g c : Nat) (q : Int) (hx : a.eval x = .slice (some ⟨g, 0, none⟩) 1 c) (hr : w.cell? ⟨g, 0, none⟩ = some (.int k q))
    (h63 : n + 1 ≤ maxLen) (hbytes : (n + 1) * bytes ≤ 140737488355328) (hbase : base ≤ w.heap.size)
    (h : ∀ v' w', OwnI k e base w' v' (n + 1) (xs ++ [q]) → Below base w w' → wpList P ops Q rest (a.put o.dst v') w') : wpList P ops Q (o :: rest) a w := by
  refine wpList_append_own w hgd s x t ho base e i z 1 bytes ht hi hz hsize hby hzs (by omega) v n _ hs hown ⟨g, 0, none⟩ 1 c ([q].map (Value.int k)) hx rfl ?_ (ints_oneCell k [q]) h63 hbytes hbase ?_
  · intro j u hu
    cases j with
    | zero => simp at hu; subst hu; exact hr
    | succ j => simp at hu
  · intro v' w' h2 h3 _
    exact h v' w' (by unfold OwnI; rw [List.map_append]; exact h2) (OwnI.grown hown h3 hbase)
end
end Go.Proofs.YtpemjlmopnndbaaDoor.Mem
