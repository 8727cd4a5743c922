/-
  Plain facts on the text of an address: what it is, how a text is cut at its marks, and that a text has one address at most.
  Conditions: none; nothing of the program stands here.
-/
import Derived.Test.YtpemjlmopnndbaaDoorParseMath
namespace Go.Proofs.YtpemjlmopnndbaaDoor.Adr
open Go Go.Proofs.YtpemjlmopnndbaaDoor.Fmt

/-- Host, path and query are in their ranges. -/
def okA (h p q : Int) : Bool := decide (1 ≤ h ∧ h ≤ 9 ∧ 0 ≤ p ∧ p ≤ 99 ∧ 0 ≤ q ∧ q ≤ 99)
theorem okA_iff {h p q : Int} : okA h p q = true ↔ 1 ≤ h ∧ h ≤ 9 ∧ 0 ≤ p ∧ p ≤ 99 ∧ 0 ≤ q ∧ q ≤ 99 := by unfold okA; simp

/-- The text of an address in its ranges. -/
def body (h p q : Int) : List UInt8 := Lib.itoa h ++ 47 :: (Lib.itoa p ++ if q = 0 then [] else 63 :: Lib.itoa q)
/-- The text of an address; no letter if it is not valid. -/
def atext (h p q : Int) : List UInt8 := if okA h p q then body h p q else []
theorem atext_ok {h p q : Int} (k : okA h p q = true) : atext h p q = body h p q := by unfold atext; rw [if_pos k]
theorem atext_bad {h p q : Int} (k : okA h p q = false) : atext h p q = [] := by unfold atext; rw [k]; rfl

theorem pnum_int (n : Int) (h0 : 0 ≤ n) (h1 : n ≤ 1000000000000) : pnum (Lib.itoa n) = some n.toNat := by
  have h3 : ((n.toNat : Nat) : Int) = n := by omega
  have := pnum_itoa n.toNat (by omega)
  rw [h3] at this; exact this

theorem num_digit {x : List UInt8} {m : Nat} (h : pnum x = some m) {c : UInt8} (hc : c ∈ x) : 48 ≤ c.toNat ∧ c.toNat ≤ 57 := by
  have hd := (pnum_some h).1
  unfold Lib.decNat at hd
  split at hd
  · cases hd
  · obtain ⟨k, hk, he⟩ := List.getElem_of_mem hc
    obtain ⟨d, hx⟩ := Lib.digit_of_decFrom _ _ _ hd k c (by rw [List.getElem?_eq_getElem hk, he])
    exact ⟨(digit_range hx).1, (digit_range hx).2.1⟩
theorem num_no {x : List UInt8} {m : Nat} (h : pnum x = some m) {c : UInt8} (hc : c.toNat < 48 ∨ 57 < c.toNat) : c ∉ x := fun hm => by
  have := num_digit h hm; omega
theorem itoa_no {n : Int} (h0 : 0 ≤ n) (h1 : n ≤ 99) {c : UInt8} (hc : c.toNat < 48 ∨ 57 < c.toNat) : c ∉ Lib.itoa n := num_no (pnum_int n h0 (by omega)) hc
theorem itoa_inj {n m : Int} (n0 : 0 ≤ n) (n1 : n ≤ 99) (m0 : 0 ≤ m) (m1 : m ≤ 99) (h : Lib.itoa n = Lib.itoa m) : n = m := by
  have a := pnum_int n n0 (by omega)
  have b := pnum_int m m0 (by omega)
  rw [h, b] at a
  have := Option.some.inj a
  omega

/-- A list is cut in one way at the first place of a letter. -/
theorem cut_eq {c : UInt8} : ∀ {x x' y y' : List UInt8}, c ∉ x → c ∉ x' → x ++ c :: y = x' ++ c :: y' → x = x' ∧ y = y'
  | [], [], _, _, _, _, h => by simpa using h
  | [], a :: x', _, _, _, h', h => by
    simp only [List.nil_append, List.cons_append, List.cons.injEq] at h
    exact absurd (by rw [← h.1]; exact List.mem_cons_self) h'
  | a :: x, [], _, _, h', _, h => by
    simp only [List.nil_append, List.cons_append, List.cons.injEq] at h
    exact absurd (by rw [h.1]; exact List.mem_cons_self) h'
  | a :: x, b :: x', y, y', h1, h2, h => by
    simp only [List.cons_append, List.cons.injEq] at h
    obtain ⟨e1, e2⟩ := cut_eq (fun hm => h1 (List.mem_cons_of_mem _ hm)) (fun hm => h2 (List.mem_cons_of_mem _ hm)) h.2
    exact ⟨by rw [h.1, e1], e2⟩

/-- How a text is cut at its marks. -/
def Sp1 (l x y : List UInt8) : Prop := l = x ++ 47 :: y ∧ 47 ∉ x ∧ 63 ∉ y
def Sp2 (l x y z : List UInt8) : Prop := l = x ++ 47 :: (y ++ 63 :: z) ∧ 47 ∉ x ∧ 63 ∉ y

theorem sp0_no {l : List UInt8} (h0 : 47 ∉ l) {h p q : Int} (k : okA h p q = true) : atext h p q ≠ l := by
  rw [atext_ok k]; intro e; subst e; exact h0 (by unfold body; simp)
theorem sp1_of {l x y : List UInt8} (s : Sp1 l x y) {h p q : Int} (k : okA h p q = true) (e : atext h p q = l) : q = 0 ∧ x = Lib.itoa h ∧ y = Lib.itoa p := by
  obtain ⟨a0, a1, b0, b1, c0, c1⟩ := okA_iff.1 k
  rw [atext_ok k] at e
  unfold body at e
  obtain ⟨hl, hx, hy⟩ := s
  subst hl
  obtain ⟨e1, e2⟩ := cut_eq (itoa_no (by omega) (by omega) (by decide)) hx e
  by_cases hq : q = 0
  · rw [if_pos hq, List.append_nil] at e2; exact ⟨hq, e1.symm, e2.symm⟩
  · rw [if_neg hq] at e2; exact absurd (by rw [← e2]; simp) hy
theorem sp2_of {l x y z : List UInt8} (s : Sp2 l x y z) {h p q : Int} (k : okA h p q = true) (e : atext h p q = l) : q ≠ 0 ∧ x = Lib.itoa h ∧ y = Lib.itoa p ∧ z = Lib.itoa q := by
  obtain ⟨a0, a1, b0, b1, c0, c1⟩ := okA_iff.1 k
  rw [atext_ok k] at e
  unfold body at e
  obtain ⟨hl, hx, hy⟩ := s
  subst hl
  obtain ⟨e1, e2⟩ := cut_eq (itoa_no (by omega) (by omega) (by decide)) hx e
  have hp63 : (63 : UInt8) ∉ Lib.itoa p := itoa_no (by omega) (by omega) (by decide)
  by_cases hq : q = 0
  · rw [if_pos hq, List.append_nil] at e2; exact absurd (by rw [e2]; simp) hp63
  · rw [if_neg hq] at e2
    obtain ⟨e3, e4⟩ := cut_eq hp63 hy e2
    exact ⟨hq, e1.symm, e3.symm, e4.symm⟩
theorem body_sp1 {h p : Int} (k : okA h p 0 = true) : Sp1 (atext h p 0) (Lib.itoa h) (Lib.itoa p) := by
  obtain ⟨a0, a1, b0, b1, c0, c1⟩ := okA_iff.1 k
  rw [atext_ok k]
  exact ⟨by unfold body; simp, itoa_no (by omega) (by omega) (by decide), itoa_no (by omega) (by omega) (by decide)⟩
theorem body_sp2 {h p q : Int} (k : okA h p q = true) (hq : q ≠ 0) : Sp2 (atext h p q) (Lib.itoa h) (Lib.itoa p) (Lib.itoa q) := by
  obtain ⟨a0, a1, b0, b1, c0, c1⟩ := okA_iff.1 k
  rw [atext_ok k]
  exact ⟨by unfold body; simp [hq], itoa_no (by omega) (by omega) (by decide), itoa_no (by omega) (by omega) (by decide)⟩
/-- A text has one address at most. -/
theorem atext_inj {h p q h' p' q' : Int} (k : okA h p q = true) (k' : okA h' p' q' = true) (e : atext h p q = atext h' p' q') : h = h' ∧ p = p' ∧ q = q' := by
  obtain ⟨a0, a1, b0, b1, c0, c1⟩ := okA_iff.1 k
  obtain ⟨a0', a1', b0', b1', c0', c1'⟩ := okA_iff.1 k'
  by_cases hq : q' = 0
  · subst hq
    obtain ⟨e0, e1, e2⟩ := sp1_of (body_sp1 k') k e
    exact ⟨(itoa_inj (by omega) (by omega) (by omega) (by omega) e1).symm, (itoa_inj (by omega) (by omega) (by omega) (by omega) e2).symm, e0⟩
  · obtain ⟨e0, e1, e2, e3⟩ := sp2_of (body_sp2 k' hq) k e
    exact ⟨(itoa_inj (by omega) (by omega) (by omega) (by omega) e1).symm, (itoa_inj (by omega) (by omega) (by omega) (by omega) e2).symm, (itoa_inj (by omega) (by omega) (by omega) (by omega) e3).symm⟩

open Classical in
/-- The address whose text is l. -/
noncomputable def pa (l : List UInt8) : Option (Int × Int × Int) :=
  if h : ∃ t : Int × Int × Int, okA t.1 t.2.1 t.2.2 = true ∧ atext t.1 t.2.1 t.2.2 = l then some (Classical.choose h) else none
noncomputable def paH (l : List UInt8) : Int := ((pa l).getD (0, 0, 0)).1
noncomputable def paP (l : List UInt8) : Int := ((pa l).getD (0, 0, 0)).2.1
noncomputable def paQ (l : List UInt8) : Int := ((pa l).getD (0, 0, 0)).2.2
noncomputable def paY (l : List UInt8) : Bool := (pa l).isSome

theorem pa_some {l : List UInt8} {h p q : Int} (k : okA h p q = true) (e : atext h p q = l) : pa l = some (h, p, q) := by
  have hx : ∃ t : Int × Int × Int, okA t.1 t.2.1 t.2.2 = true ∧ atext t.1 t.2.1 t.2.2 = l := ⟨(h, p, q), k, e⟩
  unfold pa
  rw [dif_pos hx]
  obtain ⟨h1, h2⟩ := Classical.choose_spec hx
  obtain ⟨a, b, c⟩ := atext_inj k h1 (e.trans h2.symm)
  congr 1
  exact (Prod.ext a (Prod.ext b c)).symm
theorem pa_none {l : List UInt8} (h : ∀ h p q, okA h p q = true → atext h p q ≠ l) : pa l = none := by
  unfold pa
  rw [dif_neg]
  rintro ⟨t, k, e⟩
  exact h _ _ _ k e
theorem pa_yes {l : List UInt8} {h p q : Int} (k : okA h p q = true) (e : atext h p q = l) : paH l = h ∧ paP l = p ∧ paQ l = q ∧ paY l = true := by
  unfold paH paP paQ paY; rw [pa_some k e]; exact ⟨rfl, rfl, rfl, rfl⟩
theorem pa_no {l : List UInt8} (h : pa l = none) : paH l = 0 ∧ paP l = 0 ∧ paQ l = 0 ∧ paY l = false := by
  unfold paH paP paQ paY; rw [h]; exact ⟨rfl, rfl, rfl, rfl⟩
theorem pa_valid {l : List UInt8} (h : paY l = true) : okA (paH l) (paP l) (paQ l) = true ∧ atext (paH l) (paP l) (paQ l) = l := by
  by_cases hx : ∃ t : Int × Int × Int, okA t.1 t.2.1 t.2.2 = true ∧ atext t.1 t.2.1 t.2.2 = l
  · obtain ⟨t, k, e⟩ := hx
    obtain ⟨h1, h2, h3, _⟩ := pa_yes k e
    rw [h1, h2, h3]; exact ⟨k, e⟩
  · have := pa_none (l := l) (fun a b c k e => hx ⟨(a, b, c), k, e⟩)
    rw [(pa_no this).2.2.2] at h; cases h

/-! What becomes of the pieces. -/
theorem pnum_nil : pnum [] = none := rfl
theorem of_text {l : List UInt8} {h p q : Int} (hl : l ≠ []) (e : atext h p q = l) : okA h p q = true := by
  cases k : okA h p q with
  | true => rfl
  | false => rw [atext_bad k] at e; exact absurd e.symm hl
theorem sp0_none {l : List UInt8} (h0 : 47 ∉ l) : pa l = none := pa_none fun _ _ _ k => sp0_no h0 k
theorem sp0_other {l : List UInt8} (h0 : 47 ∉ l) (hl : l ≠ []) (h p q : Int) : atext h p q ≠ l := fun e => sp0_no h0 (of_text hl e) e
theorem pnum_ne {l : List UInt8} {m : Nat} (h : pnum l = some m) : l ≠ [] := by rintro rfl; rw [pnum_nil] at h; cases h
theorem sp1_ne {l x y : List UInt8} (s : Sp1 l x y) : l ≠ [] := by rw [s.1]; simp
theorem sp2_ne {l x y z : List UInt8} (s : Sp2 l x y z) : l ≠ [] := by rw [s.1]; simp
theorem sp1_none_x {l x y : List UInt8} (s : Sp1 l x y) (h : pnum x = none) : pa l = none := pa_none fun a b c k e => by
  obtain ⟨a0, a1, b0, b1, c0, c1⟩ := okA_iff.1 k
  obtain ⟨_, e1, e2⟩ := sp1_of s k e
  rw [e1, pnum_int a (by omega) (by omega)] at h; cases h
theorem sp1_none_y {l x y : List UInt8} (s : Sp1 l x y) (h : pnum y = none) : pa l = none := pa_none fun a b c k e => by
  obtain ⟨a0, a1, b0, b1, c0, c1⟩ := okA_iff.1 k
  obtain ⟨_, e1, e2⟩ := sp1_of s k e
  rw [e2, pnum_int b (by omega) (by omega)] at h; cases h
theorem sp1_none {l x y : List UInt8} (s : Sp1 l x y) {m n : Nat} (hm : pnum x = some m) (hn : pnum y = some n) (h : atext m n 0 ≠ l) : pa l = none := pa_none fun a b c k e => by
  obtain ⟨a0, a1, b0, b1, c0, c1⟩ := okA_iff.1 k
  obtain ⟨e0, e1, e2⟩ := sp1_of s k e
  rw [e1, pnum_int a (by omega) (by omega)] at hm
  rw [e2, pnum_int b (by omega) (by omega)] at hn
  have h1 := Option.some.inj hm
  have h2 := Option.some.inj hn
  have h3 : (m : Int) = a := by omega
  have h4 : (n : Int) = b := by omega
  rw [h3, h4] at h
  subst e0
  exact h e
theorem sp2_none_x {l x y z : List UInt8} (s : Sp2 l x y z) (h : pnum x = none) : pa l = none := pa_none fun a b c k e => by
  obtain ⟨a0, a1, b0, b1, c0, c1⟩ := okA_iff.1 k
  obtain ⟨_, e1, e2, e3⟩ := sp2_of s k e
  rw [e1, pnum_int a (by omega) (by omega)] at h; cases h
theorem sp2_none_y {l x y z : List UInt8} (s : Sp2 l x y z) (h : pnum y = none) : pa l = none := pa_none fun a b c k e => by
  obtain ⟨a0, a1, b0, b1, c0, c1⟩ := okA_iff.1 k
  obtain ⟨_, e1, e2, e3⟩ := sp2_of s k e
  rw [e2, pnum_int b (by omega) (by omega)] at h; cases h
theorem sp2_none_z {l x y z : List UInt8} (s : Sp2 l x y z) (h : pnum z = none) : pa l = none := pa_none fun a b c k e => by
  obtain ⟨a0, a1, b0, b1, c0, c1⟩ := okA_iff.1 k
  obtain ⟨_, e1, e2, e3⟩ := sp2_of s k e
  rw [e3, pnum_int c (by omega) (by omega)] at h; cases h
theorem sp2_none {l x y z : List UInt8} (s : Sp2 l x y z) {m n r : Nat} (hm : pnum x = some m) (hn : pnum y = some n) (hr : pnum z = some r) (h : atext m n r ≠ l) : pa l = none := pa_none fun a b c k e => by
  obtain ⟨a0, a1, b0, b1, c0, c1⟩ := okA_iff.1 k
  obtain ⟨e0, e1, e2, e3⟩ := sp2_of s k e
  rw [e1, pnum_int a (by omega) (by omega)] at hm
  rw [e2, pnum_int b (by omega) (by omega)] at hn
  rw [e3, pnum_int c (by omega) (by omega)] at hr
  have h1 := Option.some.inj hm
  have h2 := Option.some.inj hn
  have h3 := Option.some.inj hr
  have h4 : (m : Int) = a := by omega
  have h5 : (n : Int) = b := by omega
  have h6 : (r : Int) = c := by omega
  rw [h4, h5, h6] at h
  exact h e
theorem atext_len (h p q : Int) : (atext h p q).length ≤ 62 := by
  cases k : okA h p q with
  | false => rw [atext_bad k]; simp
  | true =>
    obtain ⟨a0, a1, b0, b1, c0, c1⟩ := okA_iff.1 k
    have h1 := itoa_len h (by omega) (by omega)
    have h2 := itoa_len p (by omega) (by omega)
    have h3 := itoa_len q (by omega) (by omega)
    rw [atext_ok k]; unfold body
    by_cases hq : q = 0
    · rw [if_pos hq]; simp only [List.length_append, List.length_cons, List.length_nil]; omega
    · rw [if_neg hq]; simp only [List.length_append, List.length_cons]; omega
end Go.Proofs.YtpemjlmopnndbaaDoor.Adr
