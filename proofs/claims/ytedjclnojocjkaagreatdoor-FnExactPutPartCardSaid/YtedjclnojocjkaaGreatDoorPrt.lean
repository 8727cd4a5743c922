/-
  Words for a slice of parts in memory: seven cells a part, each with a body of its own; what keeps them so.
  Conditions: none; nothing of the program stands here.
-/
import Derived.Test.YtedjclnojocjkaaGreatDoorMem
namespace Go.Proofs.YtedjclnojocjkaaGreatDoor.Parts
open Go Go.RowKit Go.Proofs.YtedjclnojocjkaaGreatDoor.Mem

/-- A part, as a list of numbers and its body. -/
structure Prt where
  d : Int
  k : Int
  zs : List Int
  h : Int
  p : Int
  q : Int
  u : Int
def noPrt : Prt := ⟨0, 0, [], 0, 0, 0, 0⟩
def pt (l : List Prt) (i : Nat) : Prt := l.getD i noPrt
def Prt.Wf (P : Prt) : Prop := (Lit.int .i64 P.d).wf = true ∧ (Lit.int .i64 P.k).wf = true ∧ (Lit.int .i64 P.h).wf = true ∧ (Lit.int .i64 P.p).wf = true ∧ (Lit.int .i64 P.q).wf = true ∧ (Lit.int .i64 P.u).wf = true

theorem pt_mem {l : List Prt} {i : Nat} (h : i < l.length) : pt l i ∈ l := by
  unfold pt
  rw [List.getD_eq_getElem?_getD, List.getElem?_eq_getElem h]
  exact List.getElem_mem _

/-- The seven cells of a part, from offset o of block b on. -/
structure Cells7 (w : World) (b o : Nat) (P : Prt) (A : Option Addr) (c : Nat) : Prop where
  c0 : w.cell? ⟨b, o, none⟩ = some (.int .i64 P.d)
  c1 : w.cell? ⟨b, o + 1, none⟩ = some (.int .i64 P.k)
  c2 : w.cell? ⟨b, o + 2, none⟩ = some (.slice A P.zs.length c)
  c3 : w.cell? ⟨b, o + 3, none⟩ = some (.int .i64 P.h)
  c4 : w.cell? ⟨b, o + 4, none⟩ = some (.int .i64 P.p)
  c5 : w.cell? ⟨b, o + 5, none⟩ = some (.int .i64 P.q)
  c6 : w.cell? ⟨b, o + 6, none⟩ = some (.int .i64 P.u)

def Free7 (w : World) (b o : Nat) : Prop := ∀ x, x < 7 → w.frozen? ⟨b, o + x, none⟩ = false

/-- What lies behind one part. -/
structure Lain (lo hi : Nat) (w : World) (P : Prt) (A : Option Addr) (c : Nat) : Prop where
  row : Row .i64 lo hi w A P.zs.length P.zs
  le : P.zs.length ≤ c
  max : c ≤ maxLen

/-- The slice '.slice a n _' reads as the parts l; what it needs lies in blocks from lo on and below hi. -/
structure PRow (lo hi : Nat) (w : World) (a : Option Addr) (n : Nat) (l : List Prt) : Prop where
  len : l.length = n
  wf : ∀ P ∈ l, P.Wf
  here : 0 < n → ∃ b off, a = some ⟨b, off, none⟩ ∧ lo ≤ b ∧ b < hi ∧ ∀ i, i < n → ∃ A c, Cells7 w b (off + i * 7) (pt l i) A c ∧ Lain lo hi w (pt l i) A c

/-- No body lies in the parts' own block, no two bodies in one. -/
def Sep (b n : Nat) (F : Nat → Option Addr × Nat) (l : List Prt) : Prop :=
  (∀ i, i < n → ∀ x, (F i).1 = some x → 0 < (pt l i).zs.length → x.block ≠ b) ∧
  ∀ i j, i < n → j < n → i ≠ j → ∀ x y, (F i).1 = some x → (F j).1 = some y → 0 < (pt l i).zs.length → 0 < (pt l j).zs.length → x.block ≠ y.block

/-- One part of a slice that may be written. -/
structure Held (lo hi : Nat) (w : World) (b o : Nat) (P : Prt) (f : Option Addr × Nat) : Prop where
  cells : Cells7 w b o P f.1 f.2
  free : Free7 w b o
  body : Own .i64 lo hi w f.1 P.zs.length P.zs
  le : P.zs.length ≤ f.2
  max : f.2 ≤ maxLen

/-- The same of a slice that may be written. -/
structure POwn (lo hi : Nat) (w : World) (a : Option Addr) (n : Nat) (l : List Prt) : Prop where
  len : l.length = n
  wf : ∀ P ∈ l, P.Wf
  here : 0 < n → ∃ b off F, a = some ⟨b, off, none⟩ ∧ lo ≤ b ∧ b < hi ∧ (∀ i, i < n → Held lo hi w b (off + i * 7) (pt l i) (F i)) ∧ Sep b n F l

section
variable {lo hi B n b o c : Nat} {w w' : World} {a A : Option Addr} {l : List Prt} {P : Prt} {f : Option Addr × Nat}
theorem Cells7.keep (h : Cells7 w b o P A c) (hb : w'.heap[b]? = w.heap[b]?) : Cells7 w' b o P A c := by
  obtain ⟨h0, h1, h2, h3, h4, h5, h6⟩ := h
  exact ⟨by rw [cell_of_heap hb]; exact h0, by rw [cell_of_heap hb]; exact h1, by rw [cell_of_heap hb]; exact h2, by rw [cell_of_heap hb]; exact h3, by rw [cell_of_heap hb]; exact h4, by rw [cell_of_heap hb]; exact h5, by rw [cell_of_heap hb]; exact h6⟩
theorem Cells7.lt (h : Cells7 w b o P A c) : b < w.heap.size := cell_lt h.c0
theorem Lain.keep (h : Lain lo hi w P A c) (hk : ∀ i, i < w.heap.size → lo ≤ i → i < hi → w'.heap[i]? = w.heap[i]?) : Lain lo hi w' P A c := ⟨h.row.keep hk, h.le, h.max⟩
theorem Lain.more {lo' hi' : Nat} (h : Lain lo hi w P A c) (h1 : lo' ≤ lo) (h2 : hi ≤ hi') : Lain lo' hi' w P A c := ⟨h.row.more h1 h2, h.le, h.max⟩
theorem PRow.keep (h : PRow lo hi w a n l) (hk : ∀ i, i < w.heap.size → lo ≤ i → i < hi → w'.heap[i]? = w.heap[i]?) : PRow lo hi w' a n l :=
  ⟨h.len, h.wf, fun hn => by
    obtain ⟨b, off, a1, a2, a3, a4⟩ := h.here hn
    refine ⟨b, off, a1, a2, a3, fun i hi => ?_⟩
    obtain ⟨A, c, h1, h2⟩ := a4 i hi
    exact ⟨A, c, h1.keep (hk b h1.lt a2 a3), h2.keep hk⟩⟩
theorem PRow.below (h : PRow lo hi w a n l) (hb : Below w.heap.size w w') : PRow lo hi w' a n l := h.keep fun i hi _ _ => hb.block i hi
theorem PRow.under (h : PRow lo hi w a n l) (hb : Below B w w') (hB : hi ≤ B) : PRow lo hi w' a n l := h.keep fun i _ _ h2 => hb.block i (by omega)
theorem PRow.zone {lo' hi' : Nat} (h : PRow lo hi w a n l) (hz : Zone lo' hi' w w') (hd : hi ≤ lo' ∨ hi' ≤ lo) : PRow lo hi w' a n l := h.keep fun i h0 h1 h2 => hz.block i h0 (by omega)
theorem PRow.drewN (h : PRow lo hi w a n l) (m : Nat) : PRow lo hi (w.drewN m) a n l := h.keep fun _ _ _ _ => rfl
theorem PRow.more {lo' hi' : Nat} (h : PRow lo hi w a n l) (h1 : lo' ≤ lo) (h2 : hi ≤ hi') : PRow lo' hi' w a n l :=
  ⟨h.len, h.wf, fun hn => by
    obtain ⟨b, off, a1, a2, a3, a4⟩ := h.here hn
    refine ⟨b, off, a1, by omega, by omega, fun i hi => ?_⟩
    obtain ⟨A, c, g1, g2⟩ := a4 i hi
    exact ⟨A, c, g1, g2.more h1 h2⟩⟩
theorem PRow.at (h : PRow lo hi w a n l) {i : Nat} (hi' : i < n) : ∃ b off A c, a = some ⟨b, off, none⟩ ∧ lo ≤ b ∧ b < hi ∧ Cells7 w b (off + i * 7) (pt l i) A c ∧ Lain lo hi w (pt l i) A c ∧ (pt l i).Wf := by
  obtain ⟨b, off, a1, a2, a3, a4⟩ := h.here (by omega)
  obtain ⟨A, c, h1, h2⟩ := a4 i hi'
  exact ⟨b, off, A, c, a1, a2, a3, h1, h2, h.wf _ (pt_mem (by rw [h.len]; exact hi'))⟩
theorem PRow.nil (lo hi : Nat) (w : World) (a : Option Addr) : PRow lo hi w a 0 [] := ⟨rfl, by simp, fun h => absurd h (by omega)⟩
theorem POwn.nil (lo hi : Nat) (w : World) (a : Option Addr) : POwn lo hi w a 0 [] := ⟨rfl, by simp, fun h => absurd h (by omega)⟩
theorem Held.lain (h : Held lo hi w b o P f) : Lain lo hi w P f.1 f.2 := ⟨h.body.row, h.le, h.max⟩
theorem POwn.row (h : POwn lo hi w a n l) : PRow lo hi w a n l :=
  ⟨h.len, h.wf, fun hn => by
    obtain ⟨b, off, F, a1, a2, a3, a4, _⟩ := h.here hn
    exact ⟨b, off, a1, a2, a3, fun i hi => ⟨_, _, (a4 i hi).cells, (a4 i hi).lain⟩⟩⟩
theorem Free7.keep (h : Free7 w b o) (hb : w'.heap[b]? = w.heap[b]?) : Free7 w' b o := fun x hx => by rw [frozen_of_heap hb]; exact h x hx
theorem Held.keep (h : Held lo hi w b o P f) (hlo : lo ≤ b) (hhi : b < hi) (hk : ∀ i, i < w.heap.size → lo ≤ i → i < hi → w'.heap[i]? = w.heap[i]?) : Held lo hi w' b o P f :=
  ⟨h.cells.keep (hk b h.cells.lt hlo hhi), h.free.keep (hk b h.cells.lt hlo hhi), h.body.keep hk, h.le, h.max⟩
theorem POwn.keep (h : POwn lo hi w a n l) (hk : ∀ i, i < w.heap.size → lo ≤ i → i < hi → w'.heap[i]? = w.heap[i]?) : POwn lo hi w' a n l :=
  ⟨h.len, h.wf, fun hn => by
    obtain ⟨b, off, F, a1, a2, a3, a4, a5⟩ := h.here hn
    exact ⟨b, off, F, a1, a2, a3, fun i hi => (a4 i hi).keep a2 a3 hk, a5⟩⟩
theorem POwn.below (h : POwn lo hi w a n l) (hb : Below w.heap.size w w') : POwn lo hi w' a n l := h.keep fun i hi _ _ => hb.block i hi
theorem POwn.under (h : POwn lo hi w a n l) (hb : Below B w w') (hB : hi ≤ B) : POwn lo hi w' a n l := h.keep fun i _ _ h2 => hb.block i (by omega)
theorem POwn.zone {lo' hi' : Nat} (h : POwn lo hi w a n l) (hz : Zone lo' hi' w w') (hd : hi ≤ lo' ∨ hi' ≤ lo) : POwn lo hi w' a n l := h.keep fun i h0 h1 h2 => hz.block i h0 (by omega)
theorem POwn.drewN (h : POwn lo hi w a n l) (m : Nat) : POwn lo hi (w.drewN m) a n l := h.keep fun _ _ _ _ => rfl
theorem Held.more {lo' hi' : Nat} (h : Held lo hi w b o P f) (h1 : lo' ≤ lo) (h2 : hi ≤ hi') : Held lo' hi' w b o P f := ⟨h.cells, h.free, h.body.more h1 h2, h.le, h.max⟩
theorem POwn.more {lo' hi' : Nat} (h : POwn lo hi w a n l) (h1 : lo' ≤ lo) (h2 : hi ≤ hi') : POwn lo' hi' w a n l :=
  ⟨h.len, h.wf, fun hn => by
    obtain ⟨b, off, F, a1, a2, a3, a4, a5⟩ := h.here hn
    exact ⟨b, off, F, a1, by omega, by omega, fun i hi => (a4 i hi).more h1 h2, a5⟩⟩
end

/-- What a call hands back: a slice of parts of its own. -/
def PSlice (lo n : Nat) (l : List Prt) (w : World) (e : Ending) (w' : World) : Prop :=
  ∃ a c, e = .returned (.slice a n c) ∧ POwn lo w'.heap.size w' a n l ∧ n ≤ c ∧ c ≤ maxLen ∧ Below lo w w'

/-- How much room the parts take. -/
def room : List Prt → Nat
  | [] => 0
  | P :: l => 1 + P.zs.length + room l
def bodies : List Prt → Nat
  | [] => 0
  | P :: l => P.zs.length + bodies l
theorem room_eq (l : List Prt) : room l = l.length + bodies l := by
  induction l with
  | nil => rfl
  | cons P l ih => simp [room, bodies, ih]; omega
theorem bodies_take (l : List Prt) (i : Nat) (h : i < l.length) : bodies (l.take (i + 1)) = bodies (l.take i) + (pt l i).zs.length := by
  induction l generalizing i with
  | nil => simp at h
  | cons P l ih =>
    cases i with
    | zero => simp [bodies, pt]
    | succ i =>
      simp only [List.take_succ_cons, bodies]
      rw [ih i (by simpa using h)]
      simp [pt]; omega
theorem bodies_le (l : List Prt) (i : Nat) : bodies (l.take i) ≤ bodies l := by
  induction l generalizing i with
  | nil => simp
  | cons P l ih => cases i with
    | zero => simp [bodies]
    | succ i => simp only [List.take_succ_cons, bodies]; have := ih i; omega
end Go.Proofs.YtedjclnojocjkaaGreatDoor.Parts
