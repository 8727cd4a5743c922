/-
  The draws of chapter 3's laws: words, rows of words and of bytes, and a label.
  Conditions: the input's bytes lie in memory that was there.
-/
import Derived.Test.YtmiemfecbllhfaaDrawRow
import Derived.Test.YtmiemfecbllhfaaDrawStr
import Derived.Test.YtmiemfecbllhfaaInts
namespace Go.Proofs.Ytmiemfecbllhfaa.Draw
open Go Go.RowKit Go.Proofs.Ytmiemfecbllhfaa.Mem
set_option linter.unusedVariables false

/-- A word: a number from -1 to 2^31. -/
def word (x : Int) : Bool := decide (-1 ≤ x ∧ x ≤ 2147483648)
def IsWord (e : Ending) : Prop := ∃ x : Int, -1 ≤ x ∧ x ≤ 2147483648 ∧ e = .returned (.int .i64 x)
theorem isWord_of {zs : List Int} {z : Int} (hz : z ∈ zs) (h : zs.all word = true) : IsWord (.returned (.int .i64 z)) := by
  have := List.all_eq_true.1 h z hz
  unfold word at this
  have := of_decide_eq_true this
  exact ⟨z, this.1, this.2, rfl⟩
theorem prod_word (y z : Nat) (hy : y < 1000000) (hz : z < 2000) : ∃ s : Nat, wrap64 ((y : Int) * (z : Int)) = (s : Int) ∧ s ≤ 2000000000 := by
  have h1 : y * z ≤ 1000000 * 2000 := Nat.mul_le_mul (by omega) (by omega)
  have e1 : (y : Int) * (z : Int) = ((y * z : Nat) : Int) := by simp
  refine ⟨y * z, ?_, by omega⟩
  rw [e1]; generalize y * z = s at *; rw [IntWalk.wrap64_in _ ⟨by omega, by omega⟩]

set_option maxRecDepth 100000 in
theorem word_any (B p : Nat) (w : World) (hc : Cur 62 B p w) :
    Calls Try.prog 45 #[.pointer (some ⟨p, 0, none⟩)] w fun e w' => IsWord e ∧ Cur 62 B p w' ∧ Only p w w' := by
  go_enter Try.func45, Try.ntmps45
  go_wp2_with fail
  go_at_call 58
  refine (once_any B p _ _ hc (by omega) (by omega)).mono ?_
  rintro e w1 ⟨⟨x, rfl⟩, hc1, ho1⟩
  cases x
  · go_wp2_with fail
    go_at_call 58
    refine (once_any B p _ _ hc1 (by omega) (by omega)).mono ?_
    rintro e w2 ⟨⟨x2, rfl⟩, hc2, ho2⟩
    have ho12 := ho1.trans ho2
    cases x2
    · go_wp2_with fail
      go_at_call 47
      refine (below_any B p _ _ hc2 (by omega) (by omega)).mono ?_
      rintro e w3 ⟨⟨y, hy, rfl⟩, hc3, ho3⟩
      go_wp2_with fail
      go_at_call 47
      refine (below_any B p _ _ hc3 (by omega) (by omega)).mono ?_
      rintro e w4 ⟨⟨z, hz, rfl⟩, hc4, ho4⟩
      obtain ⟨s, hs, hs2⟩ := prod_word y z hy hz
      go_wp2
      go_ret
      exact ⟨⟨s, by omega, by omega, by rw [← hs]; rfl⟩, hc4, (ho12.trans ho3).trans ho4⟩
    · go_wp2_with (go_at_call 59; refine (int_new B p [0, 1, 2147483646] _ _ _ rfl _ _ rfl hc2 (by decide) (by decide)).mono ?_; rintro e w3 ⟨⟨y, hy, rfl⟩, hc3, ho3⟩)
      go_ret
      exact ⟨isWord_of hy (by decide), hc3, ho12.trans ho3⟩
  · go_wp2_with (go_at_call 59; refine (int_new B p [-1, 2147483647, 2147483648] _ _ _ rfl _ _ rfl hc1 (by decide) (by decide)).mono ?_; rintro e w2 ⟨⟨y, hy, rfl⟩, hc2, ho2⟩)
    go_ret
    exact ⟨isWord_of hy (by decide), hc2, ho1.trans ho2⟩

/-- Words. -/
def Words (zs : List Int) : Prop := ∀ z ∈ zs, -1 ≤ z ∧ z ≤ 2147483648
theorem Words.wf {zs : List Int} (h : Words zs) : ∀ z ∈ zs, (Lit.int .i64 z).wf = true := fun z hz => WalkArith.wf_i64 (by have := h z hz; omega)

/-- A row of words that the call has made; the cursor p has moved. -/
def RolledW (T B p : Nat) (w : World) (e : Ending) (w' : World) : Prop :=
  ∃ (v : Value) (n : Nat) (zs : List Int), e = .returned v ∧ n ≤ 4 ∧ OwnI .i64 3 w.heap.size w' v n zs ∧ Words zs ∧ Cur T B p w' ∧ Only p w w'

set_option maxHeartbeats 1000000 in
set_option maxRecDepth 100000 in
theorem words_any (B p : Nat) (w : World) (hc : Cur 62 B p w) :
    Calls Try.prog 50 #[.pointer (some ⟨p, 0, none⟩)] w (RolledW 62 B p w) := by
  obtain ⟨i0, hi0, hz0, hz1, hz2⟩ := info_parts Nts.info
  have hs := OwnI.made .i64 3 (base := w.heap.size) w (Nat.le_refl _)
  have hc0 := hc.below ((Below.refl w.heap.size w).alloc (Nat.le_refl _) (.cells #[] 3))
  have ho0 := (Only.refl p w).alloc (.cells #[] 3)
  have hpl := hc.lt
  go_enter Try.func50, Try.ntmps50
  go_wp2_with fail
  go_at_call 47
  refine (below_any B p _ _ hc0 (by omega) (by omega)).mono ?_
  rintro e w1 ⟨⟨m, hm, rfl⟩, hc1, ho1⟩
  have hm4 : m ≤ 4 := by have : m < 5 := hm; omega
  have hs1 := Only.own hs ho1 hpl
  have ho1 := ho0.trans ho1
  clear hs hc0 ho0
  go_wp2_with fail
  go_loopw [3, 4] (fun v i wr => ∃ (j : Nat) (zs : List Int), j ≤ m ∧ i = .int .i64 j ∧ OwnI .i64 3 w.heap.size wr v (m - j) zs ∧ Hid (Words zs) ∧ Cur 62 B p wr ∧ Only p w wr) (fun _ i _ => (intOf i).toNat)
  case atStart => exact ⟨m, [], Nat.le_refl _, rfl, by rw [Nat.sub_self]; exact hs1, (by intro z hz; cases hz), hc1, ho1⟩
  case round =>
    obtain ⟨j, zs, hj, rfl, ho, hwd, hcr, hor⟩ := hrel
    clear hs1 hc1 ho1
    have hsz := hor.size
    by_cases hlt : 0 < j
    · go_wp2_with fail
      go_at_call 45
      refine (word_any B p _ hcr).mono ?_
      rintro e w2 ⟨⟨x, hx0, hx1, rfl⟩, hc2, ho2⟩
      have hs2 := ho2.size
      have hw1 := (Only.own ho ho2 hpl).alloc (.cells #[.int .i64 x] 3)
      go_wp2_with (at_builtin; refine wpList_append_one rfl _ _ 28 rfl w.heap.size 3 i0 _ 8 Try.underlying28 hi0 hz0 hz1 hz2 rfl _ (m - j) zs rfl hw1 w2.heap.size 1 x rfl ?c2 ?c3 ?c4 ?c5 ?_; (case c2 => rw [World.cell?_alloc_at _ _ _ _ rfl]; rfl); (case c3 => unfold maxLen; omega); (case c4 => omega); (case c5 => simp; omega); intro v' w' ho3 hb')
      go_roundw
      case rel =>
        refine ⟨j - 1, _, by omega, by go_num, by rw [show m - (j - 1) = m - j + 1 by omega]; exact ho3, ?_, ?_, ?_⟩
        · intro z hz
          rcases List.mem_append.1 hz with hz | hz
          · exact hwd.out z hz
          · simp at hz; subst hz; exact ⟨hx0, hx1⟩
        · exact (hc2.below ((Below.refl _ _).alloc (Nat.le_refl _) _)).under hb' hpl
        · exact (((hor.trans ho2).alloc _).under hb' (Nat.le_refl _))
      case measure => simp [intOf]; omega
    · have hd : decide ((0 : Int) < (j : Int)) = false := by simp; omega
      have HE := Lib.hid (show m - j = m by omega)
      go_wp2
      go_ret
      rw [HE.out] at ho
      exact ⟨_, m, zs, rfl, hm4, ho, hwd.out, hcr, hor⟩

/-- A word and a row of words; a word and bytes; a word and a label. -/
def WordRow (w : World) (e : Ending) (w' : World) : Prop :=
  ∃ (x : Int) (q : Option Addr) (m k : Nat) (zs : List Int), e = .returned (.tuple #[.int .i64 x, .slice q m k]) ∧ -1 ≤ x ∧ x ≤ 2147483648 ∧ Own .i64 w.heap.size w'.heap.size w' q m zs ∧ Words zs ∧ m ≤ 4 ∧ m ≤ k ∧ k ≤ maxLen ∧ Below w.heap.size w w'
def WordBytes (w : World) (e : Ending) (w' : World) : Prop :=
  ∃ (x : Int) (q : Option Addr) (m k : Nat) (zs : List Int), e = .returned (.tuple #[.int .i64 x, .slice q m k]) ∧ -1 ≤ x ∧ x ≤ 2147483648 ∧ Own .u8 w.heap.size w'.heap.size w' q m zs ∧ m ≤ 7 ∧ m ≤ k ∧ k ≤ maxLen ∧ Below w.heap.size w w'
def WordText (w : World) (e : Ending) (w' : World) : Prop :=
  ∃ (x : Int) (s : ByteArray), e = .returned (.tuple #[.int .i64 x, .string s]) ∧ -1 ≤ x ∧ x ≤ 2147483648 ∧ s.size ≤ 20 ∧ Below w.heap.size w w'

set_option maxRecDepth 100000 in
theorem draw_keyed (B : Nat) (a : Option Addr) (n c : Nat) (w : World) (hb : Bytes B w a n) (hB : B ≤ w.heap.size) :
    Calls Try.prog 18 #[.slice a n c] w (WordRow w) := by
  go_enter Try.func18, Try.ntmps18
  go_wp2_with fail
  go_at_call 44
  refine (new_any B a n c _ hb hB).mono ?_
  rintro e w1 ⟨rfl, hc1, hb1⟩
  go_wp2_with fail
  go_at_call 45
  refine (word_any B _ _ hc1).mono ?_
  rintro e w2 ⟨⟨x, hx0, hx1, rfl⟩, hc2, ho2⟩
  have hb2 := hb1.trans (ho2.below (Nat.le_refl _) hb1.size)
  go_wp2_with fail
  go_at_call 50
  refine (words_any B _ _ hc2).mono ?_
  rintro e w3 ⟨v, m, zs, rfl, hm, hv3, hwd, hc3, ho3⟩
  have hb3 := hb2.trans (ho3.below (Nat.le_refl _) hb2.size)
  go_wp2
  go_ret2
  obtain ⟨q, k, rfl, g1, g2, g3⟩ := hv3.own hwd.wf
  exact ⟨_, _, _, _, _, rfl, hx0, hx1, g3.more (by have := hb2.size; omega) (Nat.le_refl _), hwd, hm, g1, g2, hb3⟩

set_option maxRecDepth 100000 in
theorem draw_encrypt (B : Nat) (a : Option Addr) (n c : Nat) (w : World) (hb : Bytes B w a n) (hB : B ≤ w.heap.size) :
    Calls Try.prog 14 #[.slice a n c] w (WordBytes w) := by
  go_enter Try.func14, Try.ntmps14
  go_wp2_with fail
  go_at_call 44
  refine (new_any B a n c _ hb hB).mono ?_
  rintro e w1 ⟨rfl, hc1, hb1⟩
  go_wp2_with fail
  go_at_call 45
  refine (word_any B _ _ hc1).mono ?_
  rintro e w2 ⟨⟨x, hx0, hx1, rfl⟩, hc2, ho2⟩
  have hb2 := hb1.trans (ho2.below (Nat.le_refl _) hb1.size)
  go_wp2_with fail
  go_at_call 47
  refine (below_any B _ _ _ hc2 (by omega) (by omega)).mono ?_
  rintro e w3 ⟨⟨m, hm, rfl⟩, hc3, ho3⟩
  have hb3 := hb2.trans (ho3.below (Nat.le_refl _) hb2.size)
  have hm7 : m ≤ 7 := by have : m < 8 := hm; omega
  go_wp2_with fail
  go_at_call 46
  refine (bytes_any B _ m _ hc3 (by omega)).mono ?_
  rintro e w4 ⟨v, zs, rfl, hv4, hwf, hc4, ho4⟩
  have hb4 := hb3.trans (ho4.below (Nat.le_refl _) hb3.size)
  go_wp2
  go_ret2
  obtain ⟨q, k, rfl, g1, g2, g3⟩ := hv4.own hwf
  exact ⟨_, _, _, _, _, rfl, hx0, hx1, g3.more (by have := hb3.size; omega) (Nat.le_refl _), hm7, g1, g2, hb4⟩

set_option maxRecDepth 100000 in
theorem draw_derive (B : Nat) (a : Option Addr) (n c : Nat) (w : World) (hb : Bytes B w a n) (hB : B ≤ w.heap.size) :
    Calls Try.prog 23 #[.slice a n c] w (WordText w) := by
  go_enter Try.func23, Try.ntmps23
  go_wp2_with fail
  go_at_call 44
  refine (new_any B a n c _ hb hB).mono ?_
  rintro e w1 ⟨rfl, hc1, hb1⟩
  go_wp2_with fail
  go_at_call 45
  refine (word_any B _ _ hc1).mono ?_
  rintro e w2 ⟨⟨x, hx0, hx1, rfl⟩, hc2, ho2⟩
  have hb2 := hb1.trans (ho2.below (Nat.le_refl _) hb1.size)
  go_wp2_with fail
  go_at_call 54
  refine (str_new B _ [⟨#[]⟩, ⟨#[97]⟩, ⟨#[98]⟩, ⟨#[97, 98]⟩, ⟨#[110, 101, 119, 115]⟩, ⟨#[120]⟩] _ _ _ rfl _ _ rfl hc2 (by decide) (by decide)).mono ?_
  rintro e w3 ⟨⟨s, hs, rfl⟩, hc3, ho3⟩
  have hb3 := hb2.trans (ho3.below (Nat.le_refl _) hb2.size)
  obtain ⟨s', hs', he⟩ := isShort_in hs (by decide)
  injection he with he
  injection he with he
  subst he
  go_wp2
  go_ret2
  exact ⟨_, _, rfl, hx0, hx1, hs', hb3⟩
end Go.Proofs.Ytmiemfecbllhfaa.Draw
