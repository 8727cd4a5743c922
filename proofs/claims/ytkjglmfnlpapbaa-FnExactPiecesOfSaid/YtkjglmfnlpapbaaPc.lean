/-
  Words for a slice of pieces in memory: three cells a piece, each with a body of its own; what keeps them so.
  Conditions: none; nothing of the program stands here.
-/
import Derived.Test.YtkjglmfnlpapbaaMem
namespace Go.Proofs.Ytkjglmfnlpapbaa.Pieces
open Go Go.RowKit Go.Proofs.Ytkjglmfnlpapbaa.Mem

/-- A piece, as a list of numbers and its body. -/
structure Pc where
  f : Int
  m : Int
  zs : List Int
def noPc : Pc := ⟨0, 0, []⟩
def pc (l : List Pc) (i : Nat) : Pc := l.getD i noPc
def Pc.Wf (P : Pc) : Prop := (Lit.int .i64 P.f).wf = true ∧ (Lit.int .i64 P.m).wf = true

theorem pc_mem {l : List Pc} {i : Nat} (h : i < l.length) : pc l i ∈ l := by
  unfold pc
  rw [List.getD_eq_getElem?_getD, List.getElem?_eq_getElem h]
  exact List.getElem_mem _

/-- The three cells of a piece, from offset o of block b on. -/
structure Cells3 (w : World) (b o : Nat) (P : Pc) (A : Option Addr) (c : Nat) : Prop where
  c0 : w.cell? ⟨b, o, none⟩ = some (.int .i64 P.f)
  c1 : w.cell? ⟨b, o + 1, none⟩ = some (.int .i64 P.m)
  c2 : w.cell? ⟨b, o + 2, none⟩ = some (.slice A P.zs.length c)

def Free3 (w : World) (b o : Nat) : Prop := ∀ x, x < 3 → w.frozen? ⟨b, o + x, none⟩ = false

/-- What lies behind one piece. -/
structure Lain (lo hi : Nat) (w : World) (P : Pc) (A : Option Addr) (c : Nat) : Prop where
  row : Row .i64 lo hi w A P.zs.length P.zs
  le : P.zs.length ≤ c
  max : c ≤ maxLen

/-- The slice '.slice a n _' reads as the pieces l; what it needs lies in blocks from lo on and below hi. -/
structure CRow (lo hi : Nat) (w : World) (a : Option Addr) (n : Nat) (l : List Pc) : Prop where
  len : l.length = n
  wf : ∀ P ∈ l, P.Wf
  here : 0 < n → ∃ b off, a = some ⟨b, off, none⟩ ∧ lo ≤ b ∧ b < hi ∧ ∀ i, i < n → ∃ A c, Cells3 w b (off + i * 3) (pc l i) A c ∧ Lain lo hi w (pc l i) A c

/-- No body lies in the pieces' own block, no two bodies in one. -/
def Sep (b n : Nat) (F : Nat → Option Addr × Nat) (l : List Pc) : Prop :=
  (∀ i, i < n → ∀ x, (F i).1 = some x → 0 < (pc l i).zs.length → x.block ≠ b) ∧
  ∀ i j, i < n → j < n → i ≠ j → ∀ x y, (F i).1 = some x → (F j).1 = some y → 0 < (pc l i).zs.length → 0 < (pc l j).zs.length → x.block ≠ y.block

/-- One piece of a slice that may be written. -/
structure Held (lo hi : Nat) (w : World) (b o : Nat) (P : Pc) (f : Option Addr × Nat) : Prop where
  cells : Cells3 w b o P f.1 f.2
  free : Free3 w b o
  body : Own .i64 lo hi w f.1 P.zs.length P.zs
  le : P.zs.length ≤ f.2
  max : f.2 ≤ maxLen

/-- The same of a slice that may be written. -/
structure COwn (lo hi : Nat) (w : World) (a : Option Addr) (n : Nat) (l : List Pc) : Prop where
  len : l.length = n
  wf : ∀ P ∈ l, P.Wf
  here : 0 < n → ∃ b off F, a = some ⟨b, off, none⟩ ∧ lo ≤ b ∧ b < hi ∧ (∀ i, i < n → Held lo hi w b (off + i * 3) (pc l i) (F i)) ∧ Sep b n F l

section
variable {lo hi B n b o c : Nat} {w w' : World} {a A : Option Addr} {l : List Pc} {P : Pc} {f : Option Addr × Nat}
theorem Cells3.keep (h : Cells3 w b o P A c) (hb : w'.heap[b]? = w.heap[b]?) : Cells3 w' b o P A c := by
  obtain ⟨h0, h1, h2⟩ := h
  exact ⟨by rw [cell_of_heap hb]; exact h0, by rw [cell_of_heap hb]; exact h1, by rw [cell_of_heap hb]; exact h2⟩
theorem Cells3.lt (h : Cells3 w b o P A c) : b < w.heap.size := cell_lt h.c0
theorem Lain.keep (h : Lain lo hi w P A c) (hk : ∀ i, i < w.heap.size → lo ≤ i → i < hi → w'.heap[i]? = w.heap[i]?) : Lain lo hi w' P A c := ⟨h.row.keep hk, h.le, h.max⟩
theorem Lain.more {lo' hi' : Nat} (h : Lain lo hi w P A c) (h1 : lo' ≤ lo) (h2 : hi ≤ hi') : Lain lo' hi' w P A c := ⟨h.row.more h1 h2, h.le, h.max⟩
theorem CRow.keep (h : CRow lo hi w a n l) (hk : ∀ i, i < w.heap.size → lo ≤ i → i < hi → w'.heap[i]? = w.heap[i]?) : CRow lo hi w' a n l :=
  ⟨h.len, h.wf, fun hn => by
    obtain ⟨b, off, a1, a2, a3, a4⟩ := h.here hn
    refine ⟨b, off, a1, a2, a3, fun i hi => ?_⟩
    obtain ⟨A, c, h1, h2⟩ := a4 i hi
    exact ⟨A, c, h1.keep (hk b h1.lt a2 a3), h2.keep hk⟩⟩
theorem CRow.below (h : CRow lo hi w a n l) (hb : Below w.heap.size w w') : CRow lo hi w' a n l := h.keep fun i hi _ _ => hb.block i hi
theorem CRow.under (h : CRow lo hi w a n l) (hb : Below B w w') (hB : hi ≤ B) : CRow lo hi w' a n l := h.keep fun i _ _ h2 => hb.block i (by omega)
theorem CRow.zone {lo' hi' : Nat} (h : CRow lo hi w a n l) (hz : Zone lo' hi' w w') (hd : hi ≤ lo' ∨ hi' ≤ lo) : CRow lo hi w' a n l := h.keep fun i h0 h1 h2 => hz.block i h0 (by omega)
theorem CRow.drewN (h : CRow lo hi w a n l) (m : Nat) : CRow lo hi (w.drewN m) a n l := h.keep fun _ _ _ _ => rfl
theorem CRow.more {lo' hi' : Nat} (h : CRow lo hi w a n l) (h1 : lo' ≤ lo) (h2 : hi ≤ hi') : CRow lo' hi' w a n l :=
  ⟨h.len, h.wf, fun hn => by
    obtain ⟨b, off, a1, a2, a3, a4⟩ := h.here hn
    refine ⟨b, off, a1, by omega, by omega, fun i hi => ?_⟩
    obtain ⟨A, c, g1, g2⟩ := a4 i hi
    exact ⟨A, c, g1, g2.more h1 h2⟩⟩
theorem CRow.at (h : CRow lo hi w a n l) {i : Nat} (hi' : i < n) : ∃ b off A c, a = some ⟨b, off, none⟩ ∧ lo ≤ b ∧ b < hi ∧ Cells3 w b (off + i * 3) (pc l i) A c ∧ Lain lo hi w (pc l i) A c ∧ (pc l i).Wf := by
  obtain ⟨b, off, a1, a2, a3, a4⟩ := h.here (by omega)
  obtain ⟨A, c, h1, h2⟩ := a4 i hi'
  exact ⟨b, off, A, c, a1, a2, a3, h1, h2, h.wf _ (pc_mem (by rw [h.len]; exact hi'))⟩
theorem CRow.nil (lo hi : Nat) (w : World) (a : Option Addr) : CRow lo hi w a 0 [] := ⟨rfl, by simp, fun h => absurd h (by omega)⟩
theorem COwn.nil (lo hi : Nat) (w : World) (a : Option Addr) : COwn lo hi w a 0 [] := ⟨rfl, by simp, fun h => absurd h (by omega)⟩
theorem Held.lain (h : Held lo hi w b o P f) : Lain lo hi w P f.1 f.2 := ⟨h.body.row, h.le, h.max⟩
theorem COwn.row (h : COwn lo hi w a n l) : CRow lo hi w a n l :=
  ⟨h.len, h.wf, fun hn => by
    obtain ⟨b, off, F, a1, a2, a3, a4, _⟩ := h.here hn
    exact ⟨b, off, a1, a2, a3, fun i hi => ⟨_, _, (a4 i hi).cells, (a4 i hi).lain⟩⟩⟩
theorem Free3.keep (h : Free3 w b o) (hb : w'.heap[b]? = w.heap[b]?) : Free3 w' b o := fun x hx => by rw [frozen_of_heap hb]; exact h x hx
theorem Held.keep (h : Held lo hi w b o P f) (hlo : lo ≤ b) (hhi : b < hi) (hk : ∀ i, i < w.heap.size → lo ≤ i → i < hi → w'.heap[i]? = w.heap[i]?) : Held lo hi w' b o P f :=
  ⟨h.cells.keep (hk b h.cells.lt hlo hhi), h.free.keep (hk b h.cells.lt hlo hhi), h.body.keep hk, h.le, h.max⟩
theorem COwn.keep (h : COwn lo hi w a n l) (hk : ∀ i, i < w.heap.size → lo ≤ i → i < hi → w'.heap[i]? = w.heap[i]?) : COwn lo hi w' a n l :=
  ⟨h.len, h.wf, fun hn => by
    obtain ⟨b, off, F, a1, a2, a3, a4, a5⟩ := h.here hn
    exact ⟨b, off, F, a1, a2, a3, fun i hi => (a4 i hi).keep a2 a3 hk, a5⟩⟩
theorem COwn.below (h : COwn lo hi w a n l) (hb : Below w.heap.size w w') : COwn lo hi w' a n l := h.keep fun i hi _ _ => hb.block i hi
theorem COwn.under (h : COwn lo hi w a n l) (hb : Below B w w') (hB : hi ≤ B) : COwn lo hi w' a n l := h.keep fun i _ _ h2 => hb.block i (by omega)
theorem COwn.zone {lo' hi' : Nat} (h : COwn lo hi w a n l) (hz : Zone lo' hi' w w') (hd : hi ≤ lo' ∨ hi' ≤ lo) : COwn lo hi w' a n l := h.keep fun i h0 h1 h2 => hz.block i h0 (by omega)
theorem COwn.drewN (h : COwn lo hi w a n l) (m : Nat) : COwn lo hi (w.drewN m) a n l := h.keep fun _ _ _ _ => rfl
theorem Held.more {lo' hi' : Nat} (h : Held lo hi w b o P f) (h1 : lo' ≤ lo) (h2 : hi ≤ hi') : Held lo' hi' w b o P f := ⟨h.cells, h.free, h.body.more h1 h2, h.le, h.max⟩
theorem COwn.more {lo' hi' : Nat} (h : COwn lo hi w a n l) (h1 : lo' ≤ lo) (h2 : hi ≤ hi') : COwn lo' hi' w a n l :=
  ⟨h.len, h.wf, fun hn => by
    obtain ⟨b, off, F, a1, a2, a3, a4, a5⟩ := h.here hn
    exact ⟨b, off, F, a1, by omega, by omega, fun i hi => (a4 i hi).more h1 h2, a5⟩⟩
end

/-- What a call hands back: a slice of pieces of its own. -/
def CSlice (lo n : Nat) (l : List Pc) (w : World) (e : Ending) (w' : World) : Prop :=
  ∃ a c, e = .returned (.slice a n c) ∧ COwn lo w'.heap.size w' a n l ∧ n ≤ c ∧ c ≤ maxLen ∧ Below lo w w'

/-- How much room the pieces take. -/
def room : List Pc → Nat
  | [] => 0
  | P :: l => 1 + P.zs.length + room l
def bodies : List Pc → Nat
  | [] => 0
  | P :: l => P.zs.length + bodies l
theorem room_eq (l : List Pc) : room l = l.length + bodies l := by
  induction l with
  | nil => rfl
  | cons P l ih => simp [room, bodies, ih]; omega
theorem bodies_take (l : List Pc) (i : Nat) (h : i < l.length) : bodies (l.take (i + 1)) = bodies (l.take i) + (pc l i).zs.length := by
  induction l generalizing i with
  | nil => simp at h
  | cons P l ih =>
    cases i with
    | zero => simp [bodies, pc]
    | succ i =>
      simp only [List.take_succ_cons, bodies]
      rw [ih i (by simpa using h)]
      simp [pc]; omega
theorem bodies_le (l : List Pc) (i : Nat) : bodies (l.take i) ≤ bodies l := by
  induction l generalizing i with
  | nil => simp
  | cons P l ih => cases i with
    | zero => simp [bodies]
    | succ i => simp only [List.take_succ_cons, bodies]; have := ih i; omega
end Go.Proofs.Ytkjglmfnlpapbaa.Pieces
