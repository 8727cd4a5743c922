/-
  Marks that are written into data of any depth: what they leave; a slice whose elements are marked one after the other.
  Conditions: none; nothing of the program stands here.
-/
import Derived.Test.YtpemjlmopnndbaaDoorDat
namespace Go.Proofs.YtpemjlmopnndbaaDoor.Gen
open Go Go.RowKit Go.Proofs.YtpemjlmopnndbaaDoor.Mem

def sumTo (g : Nat → Nat) : Nat → Nat
  | 0 => 0
  | n + 1 => sumTo g n + g n
theorem sumTo_congr {g h : Nat → Nat} : ∀ {n : Nat}, (∀ i, i < n → g i = h i) → sumTo g n = sumTo h n
  | 0, _ => rfl
  | n + 1, e => by simp only [sumTo]; rw [sumTo_congr (n := n) fun i hi => e i (by omega), e n (by omega)]
theorem sumTo_le (g : Nat → Nat) : ∀ {i n : Nat}, i ≤ n → sumTo g i ≤ sumTo g n
  | i, 0, h => by obtain rfl : i = 0 := by omega
                  exact Nat.le_refl _
  | i, n + 1, h => by
    by_cases he : i = n + 1
    · subst he; exact Nat.le_refl _
    · have := sumTo_le g (i := i) (n := n) (by omega)
      simp only [sumTo]; omega
theorem sumTo_one (n : Nat) : sumTo (fun _ => 1) n = n := by induction n with
  | zero => rfl
  | succ n ih => simp only [sumTo, ih]
/-- How many marks it takes. -/
def ct : Dat → Nat
  | .row k n f => sumTo (fun i => sumTo (fun x => ct (f i x)) k) n
  | _ => 1
/-- How much room it takes, as the exact laws count it. -/
def room : Dat → Nat
  | .row k n f => n + sumTo (fun i => sumTo (fun x => room (f i x)) k) n
  | .str s => s.size
  | _ => 0
def ctRow (k : Nat) (f : Nat → Nat → Dat) (i : Nat) : Nat := sumTo (fun x => ct (f i x)) k
def before (k : Nat) (f : Nat → Nat → Dat) (i x : Nat) : Nat := sumTo (ctRow k f) i + sumTo (fun y => ct (f i y)) x
/-- What the marks from m on leave. -/
def mk : Nat → Dat → Dat
  | m, .int _ => .int (m : Nat)
  | m, .bool _ => .bool (m % 3 = 0)
  | _, .str s => .str s
  | m, .row k n f => .row k n fun i x => mk (m + (sumTo (fun i => sumTo (fun x => ct (f i x)) k) i + sumTo (fun y => ct (f i y)) x)) (f i x)
theorem mk_row (m k n : Nat) (f : Nat → Nat → Dat) : mk m (.row k n f) = .row k n fun i x => mk (m + before k f i x) (f i x) := rfl
theorem ct_row (k n : Nat) (f : Nat → Nat → Dat) : ct (.row k n f) = sumTo (ctRow k f) n := rfl
theorem ct_mk (d : Dat) : ∀ m, ct (mk m d) = ct d := by
  induction d with
  | int z => exact fun _ => rfl
  | bool b => exact fun _ => rfl
  | str s => exact fun _ => rfl
  | row k n f ih =>
    intro m
    rw [mk_row]
    simp only [ct]
    exact sumTo_congr fun i _ => sumTo_congr fun x _ => ih i x _
theorem before_zero (k : Nat) (f : Nat → Nat → Dat) (i : Nat) : before k f i 0 = sumTo (ctRow k f) i := rfl
theorem before_succ (k : Nat) (f : Nat → Nat → Dat) (i x : Nat) : before k f i (x + 1) = before k f i x + ct (f i x) := by simp only [before, sumTo]; omega
theorem before_next (k : Nat) (f : Nat → Nat → Dat) (i : Nat) : before k f i k = sumTo (ctRow k f) (i + 1) := rfl
theorem before_le {k n i x : Nat} {f : Nat → Nat → Dat} (hi : i < n) (hx : x ≤ k) : before k f i x ≤ ct (.row k n f) := by
  have h1 := sumTo_le (fun y => ct (f i y)) hx
  have h2 := sumTo_le (ctRow k f) (i := i + 1) (n := n) (by omega)
  rw [ct_row]
  simp only [sumTo, ctRow] at h2
  simp only [before]
  omega
theorem ct_ints (zs : List Int) : ct (ints zs) = zs.length := by
  simp only [ints, ct, sumTo]
  rw [show (fun _ : Nat => 0 + 1) = fun _ => 1 from rfl, sumTo_one]
theorem room_ints (zs : List Int) : room (ints zs) = zs.length := by
  have h : ∀ n : Nat, sumTo (fun _ => 0) n = 0 := fun n => by induction n with
    | zero => rfl
    | succ n ih => simp only [sumTo, ih]
  simp only [ints, room]
  rw [show (fun i : Nat => sumTo (fun x => 0) 1) = fun _ => 0 from rfl, h]
  rfl
theorem before_ints (zs : List Int) (i : Nat) : before 1 (fun i _ => .int (zs.getD i 0)) i 0 = i := by
  rw [before_zero]
  have : ctRow 1 (fun i _ => Dat.int (zs.getD i 0)) = fun _ => 1 := by funext i; simp [ctRow, sumTo, ct]
  rw [this, sumTo_one]
theorem marks_cell {m n i : Nat} (h : m + n ≤ 9223372036854775807) (hi : i < n) : (marks .i64 m n).getD i 0 = ((m + i : Nat) : Int) := by
  rw [marks_at _ _ _ _ hi, IntKind.wrap_i64]; omega
theorem ints_marks (m n : Nat) : ints (marks .i64 m n) = .row 1 n fun i _ => .int ((marks .i64 m n).getD i 0) := by
  unfold ints
  rw [marks_len]
section
variable {lo hi m : Nat} {w : World} {S : Nat → Prop} {zs : List Int} {v : Value}
theorem mk_ints_at (h : m + zs.length ≤ 9223372036854775807) : ∀ i, i < zs.length → ∀ x, x < 1 → Dat.int ((marks .i64 m zs.length).getD i 0) = mk (m + before 1 (fun i _ => .int (zs.getD i 0)) i x) (Dat.int (zs.getD i 0)) := fun i hi x hx => by
  obtain rfl : x = 0 := by omega
  rw [before_ints, marks_cell h hi]
  rfl
theorem Owns.mk_ints (h : Owns w (ints (marks .i64 m zs.length)) v S) (hb : m + zs.length ≤ 9223372036854775807) : Owns w (mk m (ints zs)) v S := by
  rw [ints_marks] at h
  unfold ints
  rw [mk_row]
  exact h.congr (mk_ints_at hb)
theorem Lies.of_mk_ints (h : Lies lo hi w (mk m (ints zs)) v) (hb : m + zs.length ≤ 9223372036854775807) : Lies lo hi w (ints (marks .i64 m zs.length)) v := by
  rw [ints_marks]
  unfold ints at h
  rw [mk_row] at h
  exact h.congr fun i hi x hx => (mk_ints_at hb i hi x hx).symm
end

theorem lies_mk_ints {lo hi m : Nat} {w : World} {zs : List Int} {v : Value} (h : Lies lo hi w (mk m (ints zs)) v) : ∃ A c, v = .slice A zs.length c := by
  obtain ⟨A, c, e, _⟩ := h; exact ⟨A, c, e⟩
theorem room_row (k n : Nat) (f : Nat → Nat → Dat) : room (.row k n f) = n + sumTo (fun i => sumTo (fun x => room (f i x)) k) n := rfl
theorem room_at {k n i : Nat} {f : Nat → Nat → Dat} (hi : i < n) : sumTo (fun x => room (f i x)) k ≤ room (.row k n f) := by
  have h := sumTo_le (fun i => sumTo (fun x => room (f i x)) k) (i := i + 1) (n := n) (by omega)
  rw [room_row]
  simp only [sumTo] at h
  omega
theorem sumTo_bound {g h : Nat → Nat} {k : Nat} : ∀ {n : Nat}, (∀ i, i < n → g i ≤ k + 64 * h i) → sumTo g n ≤ k * n + 64 * sumTo h n
  | 0, _ => by simp [sumTo]
  | n + 1, e => by
    have h1 := sumTo_bound (n := n) fun i hi => e i (by omega)
    have h2 := e n (by omega)
    simp only [sumTo, Nat.mul_add]
    omega
theorem ct_le_room {k n : Nat} {f : Nat → Nat → Dat} (hk : k ≤ 64) (h : ∀ i, i < n → sumTo (fun x => ct (f i x)) k ≤ k + 64 * sumTo (fun x => room (f i x)) k) : ct (.row k n f) ≤ 64 * room (.row k n f) := by
  rw [ct_row, room_row]
  have h1 := sumTo_bound (g := ctRow k f) (h := fun i => sumTo (fun x => room (f i x)) k) (k := k) (n := n) h
  have h2 := Nat.mul_le_mul_right n hk
  simp only [Nat.mul_add]
  omega
theorem ctb_ints (zs : List Int) : ct (ints zs) ≤ 64 * room (ints zs) := by rw [ct_ints, room_ints]; omega
theorem ink_int {w : World} {S : Nat → Prop} {q : Nat} {z : Int} {v : Value} (hv : v = .int .i64 (q : Nat)) (hq : q ≤ 1125899906842640) : Owns w (mk q (.int z)) v S := ⟨hv, WalkArith.wf_i64 (by omega)⟩

/-- The cells of a slice of n elements of k cells: element i's cell x holds D i x. -/
def Cellar (w : World) (b off n k : Nat) (G : Nat → Nat → Nat → Prop) (D : Nat → Nat → Dat) : Prop :=
  ∀ i, i < n → ∀ x, x < k → w.frozen? ⟨b, off + i * k + x, none⟩ = false ∧ ∃ u, w.cell? ⟨b, off + i * k + x, none⟩ = some u ∧ Owns w (D i x) u (G i x)
/-- The elements ahead of j, and element j's cells ahead of x, are marked. -/
def inked (k : Nat) (f : Nat → Nat → Dat) (m j x : Nat) : Nat → Nat → Dat := fun i y => if i < j ∨ (i = j ∧ y < x) then mk (m + before k f i y) (f i y) else f i y
theorem inked_zero (k : Nat) (f : Nat → Nat → Dat) (m : Nat) : inked k f m 0 0 = f := by
  funext i y
  unfold inked
  rw [if_neg (by omega)]
theorem inked_here (k : Nat) (f : Nat → Nat → Dat) (m j x y : Nat) (h : x ≤ y) : inked k f m j x j y = f j y := by
  unfold inked
  rw [if_neg (by omega)]
theorem Cellar.congr {w : World} {b off n k : Nat} {G : Nat → Nat → Nat → Prop} {D D' : Nat → Nat → Dat} (h : Cellar w b off n k G D) (e : ∀ i, i < n → ∀ x, x < k → D i x = D' i x) : Cellar w b off n k G D' := fun i hi x hx => by
  rw [← e i hi x hx]; exact h i hi x hx
theorem Cellar.round {w : World} {b off n k m j : Nat} {G : Nat → Nat → Nat → Prop} {f : Nat → Nat → Dat} (h : Cellar w b off n k G (inked k f m j k)) : Cellar w b off n k G (inked k f m (j + 1) 0) := h.congr fun i _ x hx => by
  unfold inked
  by_cases hi : i < j ∨ i = j
  · rw [if_pos (by omega), if_pos (by omega)]
  · rw [if_neg (by omega), if_neg (by omega)]
theorem Cellar.all {w : World} {b off n k m : Nat} {G : Nat → Nat → Nat → Prop} {f : Nat → Nat → Dat} (h : Cellar w b off n k G (inked k f m n 0)) : Cellar w b off n k G (fun i x => mk (m + before k f i x) (f i x)) := h.congr fun i hi x _ => by
  unfold inked
  rw [if_pos (by omega)]
theorem off_inj {k i j x y : Nat} (hx : x < k) (hy : y < k) (h : i * k + x = j * k + y) : i = j ∧ x = y := by
  rcases Nat.lt_trichotomy i j with h1 | h1 | h1
  · have := Nat.mul_le_mul_right k (show i + 1 ≤ j by omega)
    rw [Nat.add_mul] at this
    omega
  · subst h1; omega
  · have := Nat.mul_le_mul_right k (show j + 1 ≤ i by omega)
    rw [Nat.add_mul] at this
    omega
/-- A mark into one cell. -/
theorem Cellar.cell {w : World} {b off n k m j x : Nat} {S : Nat → Prop} {G : Nat → Nat → Nat → Prop} {f : Nat → Nat → Dat} {v : Value} (h : Cellar w b off n k G (inked k f m j x)) (hA : Apart S b n k G) (hj : j < n) (hx : x < k)
    (hv : ∀ w S, Owns w (mk (m + before k f j x) (f j x)) v S) : Cellar (w.setCell ⟨b, off + j * k + x, none⟩ v) b off n k G (inked k f m j (x + 1)) := by
  intro i hi y hy
  obtain ⟨g0, u, g1, g2⟩ := h i hi y hy
  rw [World.frozen?_setCell]
  refine ⟨g0, ?_⟩
  by_cases he : i = j ∧ y = x
  · obtain ⟨rfl, rfl⟩ := he
    refine ⟨v, World.cell?_setCell_same _ _ _ g1, ?_⟩
    unfold inked
    rw [if_pos (by omega)]
    exact hv _ _
  · refine ⟨u, ?_, ?_⟩
    · rw [World.cell?_setCell_other _ _ _ _ (by intro e; injection e with _ e _; exact he (off_inj hy hx (by omega)) )]
      exact g1
    · have e : inked k f m j (x + 1) i y = inked k f m j x i y := by
        unfold inked
        by_cases hc : i < j ∨ (i = j ∧ y < x)
        · rw [if_pos hc, if_pos (by omega)]
        · rw [if_neg hc, if_neg (by omega)]
      rw [e]
      exact g2.keep fun t _ hG => Below.heap_setCell _ _ _ _ (hA.sub i y t hi hy hG).2
/-- A mark into what a cell leads to. -/
theorem Cellar.inner {w w' : World} {b off n k m j x : Nat} {S : Nat → Prop} {G : Nat → Nat → Nat → Prop} {f : Nat → Nat → Dat} {v : Value} (h : Cellar w b off n k G (inked k f m j x)) (hA : Apart S b n k G) (hj : j < n) (hx : x < k)
    (hc : w.cell? ⟨b, off + j * k + x, none⟩ = some v) (ht : Turn (G j x) w w') (hv : Owns w' (mk (m + before k f j x) (f j x)) v (G j x)) : Cellar w' b off n k G (inked k f m j (x + 1)) := by
  have hb : w'.heap[b]? = w.heap[b]? := ht.block b (cell_lt hc) fun hG => (hA.sub j x b hj hx hG).2 rfl
  intro i hi y hy
  obtain ⟨g0, u, g1, g2⟩ := h i hi y hy
  rw [frozen_of_heap hb, cell_of_heap hb]
  refine ⟨g0, u, g1, ?_⟩
  by_cases he : i = j ∧ y = x
  · obtain ⟨rfl, rfl⟩ := he
    rw [g1] at hc
    injection hc with hc
    subst hc
    unfold inked
    rw [if_pos (by omega)]
    exact hv
  · have e : inked k f m j (x + 1) i y = inked k f m j x i y := by
      unfold inked
      by_cases hc : i < j ∨ (i = j ∧ y < x)
      · rw [if_pos hc, if_pos (by omega)]
      · rw [if_neg hc, if_neg (by omega)]
    rw [e]
    exact g2.turn ht fun t h1 h2 => he (hA.dis i y j x t hi hy hj hx h1 h2)
/-- The cell that comes next holds what it held. -/
theorem Cellar.next {w : World} {b off n k m j x y : Nat} {G : Nat → Nat → Nat → Prop} {f : Nat → Nat → Dat} (h : Cellar w b off n k G (inked k f m j x)) (hj : j < n) (hy : y < k) (hxy : x ≤ y) :
    w.frozen? ⟨b, off + j * k + y, none⟩ = false ∧ ∃ u, w.cell? ⟨b, off + j * k + y, none⟩ = some u ∧ Owns w (f j y) u (G j y) := by
  have := h j hj y hy
  rwa [inked_here _ _ _ _ _ _ hxy] at this
end Go.Proofs.YtpemjlmopnndbaaDoor.Gen
