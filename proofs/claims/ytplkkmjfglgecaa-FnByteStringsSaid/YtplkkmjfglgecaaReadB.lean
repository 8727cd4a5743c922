/-
  ReadBytes, of the program and of the model.
  Conditions: the row lies in memory.
-/
import Derived.Test.YtplkkmjfglgecaaRead
namespace Go.Proofs.Ytplkkmjfglgecaa.Read
open Go Go.RowKit Go.Proofs.Ytplkkmjfglgecaa.Mem Go.Proofs.Ytplkkmjfglgecaa.Var
set_option linter.unusedVariables false

theorem rd_some {f : Nat} : ∀ {i N : Nat} {l : List Int} {m j : Nat}, rd f i N l = some (m, j) → m ≤ 1000000000000 ∧ i < j ∧ j ≤ i + f ∧ j ≤ i + l.length := by
  induction f with
  | zero => intro i N l m j h; cases h
  | succ f ih =>
    intro i N l m j h
    cases l with
    | nil => cases h
    | cons z l =>
      by_cases hz : 128 ≤ z
      · rw [rd_more hz] at h
        have := ih h
        simp only [List.length_cons]
        omega
      · by_cases hb : 1000000000000 < N + z.toNat * 2 ^ (7 * i) ∨ (z = 0 ∧ 0 < i)
        · rw [rd_bad (by omega) hb] at h; cases h
        · rw [rd_good (by omega) hb] at h
          injection h with h
          injection h with h1 h2
          subst h1 h2
          simp only [List.length_cons]
          omega
theorem rdAt_some {zs : List Int} {x : Int} {m l : Nat} (h : rdAt zs x = some (m, l)) : 0 ≤ x ∧ m ≤ 1000000000000 ∧ 1 ≤ l ∧ l ≤ 6 ∧ x + l ≤ zs.length := by
  unfold rdAt at h
  split at h
  · rename_i h0
    have := rd_some h
    simp only [List.length_drop] at this
    omega
  · cases h

theorem impl_none {lo hi : Nat} {w : World} {a : Option Addr} {n c : Nat} {x : Int} {zs : List Int} (hr : Row .u8 lo hi w a n zs) (hh : hi ≤ w.heap.size) (hn : n ≤ 35184372088832) (hx : x ≤ 9223372036854775807) (h : Hid (rdAt zs x = none)) :
    Calls Try.prog 15 #[.slice a n c, .int .i64 x] w fun e w' => e = .returned (.tuple #[.int .i64 0, .int .i64 0, .bool false]) ∧ Below w.heap.size w w' := by
  have := impl_any lo hi w a n c x zs hr hh hn hx
  rw [h.out] at this
  exact this
theorem impl_some {lo hi : Nat} {w : World} {a : Option Addr} {n c : Nat} {x : Int} {zs : List Int} {m l : Nat} (hr : Row .u8 lo hi w a n zs) (hh : hi ≤ w.heap.size) (hn : n ≤ 35184372088832) (hx : x ≤ 9223372036854775807) (h : Hid (rdAt zs x = some (m, l))) :
    Calls Try.prog 15 #[.slice a n c, .int .i64 x] w fun e w' => e = .returned (.tuple #[.int .i64 m, .int .i64 (x + l), .bool true]) ∧ Below w.heap.size w w' := by
  have := impl_any lo hi w a n c x zs hr hh hn hx
  rw [h.out] at this
  exact this
theorem spec_none {lo hi : Nat} {w : World} {a : Option Addr} {n c : Nat} {x : Int} {zs : List Int} (hr : Row .u8 lo hi w a n zs) (hh : hi ≤ w.heap.size) (hn : n ≤ 35184372088832) (hx : x ≤ 9223372036854775807) (h : Hid (rdAt zs x = none)) :
    Calls Try.prog 18 #[.slice a n c, .int .i64 x] w fun e w' => e = .returned (.tuple #[.int .i64 0, .int .i64 0, .bool false]) ∧ Below w.heap.size w w' := by
  have := spec_any lo hi w a n c x zs hr hh hn hx
  rw [h.out] at this
  exact this
theorem spec_some {lo hi : Nat} {w : World} {a : Option Addr} {n c : Nat} {x : Int} {zs : List Int} {m l : Nat} (hr : Row .u8 lo hi w a n zs) (hh : hi ≤ w.heap.size) (hn : n ≤ 35184372088832) (hx : x ≤ 9223372036854775807) (h : Hid (rdAt zs x = some (m, l))) :
    Calls Try.prog 18 #[.slice a n c, .int .i64 x] w fun e w' => e = .returned (.tuple #[.int .i64 m, .int .i64 (x + l), .bool true]) ∧ Below w.heap.size w w' := by
  have := spec_any lo hi w a n c x zs hr hh hn hx
  rw [h.out] at this
  exact this

/-- What ReadBytes finds: the bytes, the offset behind them, whether they are there. -/
def rbL (zs : List Int) (x mx : Int) : List Int :=
  match rdAt zs x with
  | none => []
  | some (m, l) => if (m : Int) ≤ mx ∧ (m : Int) + x + l ≤ zs.length then (zs.drop (x.toNat + l)).take m else []
def rbQ (zs : List Int) (x mx : Int) : Int :=
  match rdAt zs x with
  | none => 0
  | some (m, l) => if (m : Int) ≤ mx ∧ (m : Int) + x + l ≤ zs.length then x + l + m else 0
def rbB (zs : List Int) (x mx : Int) : Bool :=
  match rdAt zs x with
  | none => false
  | some (m, l) => decide ((m : Int) ≤ mx ∧ (m : Int) + x + l ≤ zs.length)

/-- A part of a row is a row. -/
theorem Row.part {k : IntKind} {lo hi n s m : Nat} {w : World} {b off : Nat} {zs : List Int} (h : Row k lo hi w (some ⟨b, off, none⟩) n zs) (hs : s + m ≤ n) :
    Row k lo hi w (some ⟨b, off + s, none⟩) m ((zs.drop s).take m) := by
  have hl := h.len
  refine ⟨by simp; omega, fun z hz => h.wf z (List.mem_of_mem_drop (List.mem_of_mem_take hz)), fun hm => ?_⟩
  obtain ⟨b', off', he, h1, h2, h3⟩ := h.here (by omega)
  injection he with he
  injection he with he1 he2 _
  subst he1 he2
  refine ⟨b, off + s, rfl, h1, h2, fun j hj => ?_⟩
  rw [Nat.add_assoc, h3 (s + j) (by omega), List.getD_eq_getElem?_getD, List.getD_eq_getElem?_getD, List.getElem?_take_of_lt hj, List.getElem?_drop]

set_option maxHeartbeats 1000000 in
set_option maxRecDepth 100000 in
theorem bytes_impl (lo hi : Nat) (w : World) (a : Option Addr) (n c : Nat) (x mx : Int) (zs : List Int) (hr : Row .u8 lo hi w a n zs) (hh : hi ≤ w.heap.size) (hn : n ≤ 35184372088832) (hc : n ≤ c) (hc2 : c ≤ 9223372036854775807) (hx : x ≤ 9223372036854775807) :
    Calls Try.prog 21 #[.slice a n c, .int .i64 x, .int .i64 mx] w (Slice3 .u8 w.heap.size (rbL zs x mx).length (rbL zs x mx) (rbQ zs x mx) (rbB zs x mx) w) := by
  have HL := Lib.hid hr.len
  have hn0 := Own.nil .u8 w.heap.size
  cases hR : rdAt zs x with
  | none =>
    have h1 : rbL zs x mx = [] := by unfold rbL; rw [hR]
    have h2 : rbQ zs x mx = 0 := by unfold rbQ; rw [hR]
    have h3 : rbB zs x mx = false := by unfold rbB; rw [hR]
    rw [h1, h2, h3]
    have HR := Lib.hid hR
    clear hR h1 h2 h3
    go_enter Try.func21, Try.ntmps21
    go_wp2_with fail
    refine (impl_none hr hh hn hx HR).mono ?_
    rintro e w1 ⟨rfl, hb⟩
    have hs := hb.size
    go_wp2
    go_ret3
    exact ⟨_, _, rfl, Own.nil _ _ _ _ _, Nat.le_refl _, Nat.zero_le _, hb.alloc hs _⟩
  | some ml =>
    obtain ⟨m, l⟩ := ml
    obtain ⟨x0, m1, l0, l1, hxl⟩ := rdAt_some hR
    have hxn : x + (l : Int) ≤ n := by have := HL.out; omega
    clear hxl
    by_cases hok : (m : Int) ≤ mx ∧ (m : Int) + x + l ≤ zs.length
    · have h1 : rbL zs x mx = (zs.drop (x.toNat + l)).take m := by unfold rbL; rw [hR]; exact if_pos hok
      have h2 : rbQ zs x mx = x + l + m := by unfold rbQ; rw [hR]; exact if_pos hok
      have h3 : rbB zs x mx = true := by unfold rbB; rw [hR]; exact decide_eq_true hok
      rw [h1, h2, h3]
      obtain ⟨hok1, hok2⟩ := hok
      have hok3 : (m : Int) + x + l ≤ n := by have := HL.out; omega
      have HR := Lib.hid hR
      clear hR h1 h2 h3 hok2
      obtain ⟨X, rfl⟩ : ∃ X : Nat, x = X := ⟨x.toNat, by omega⟩
      rw [Int.toNat_natCast]
      rcases Nat.eq_zero_or_pos m with rfl | hm
      · go_enter Try.func21, Try.ntmps21
        go_wp2_with fail
        refine (impl_some hr hh hn hx HR).mono ?_
        rintro e w1 ⟨rfl, hb⟩
        have hs := hb.size
        go_wp2_with fail
        refine (copy_any w1.heap.size w1.heap.size w1 _ 0 _ [] (Row.nil _ _ _ _ _) (Nat.le_refl _) (by omega)).mono ?_
        rintro e w2 ⟨v, rfl, ho, hb2⟩
        go_wp2
        go_ret3
        obtain ⟨q, k, rfl, g1, g2, g3⟩ := ho.own (by simp)
        exact ⟨_, _, rfl, g3.more hs (Nat.le_refl _), g1, g2, hb.trans (hb2.mono hs)⟩
      · obtain ⟨b, off, rfl, _⟩ := hr.here (by omega)
        go_enter Try.func21, Try.ntmps21
        go_wp2_with fail
        refine (impl_some hr hh hn hx HR).mono ?_
        rintro e w1 ⟨rfl, hb⟩
        have hs := hb.size
        have hp := Row.part (s := X + l) (m := m) (hr.under hb hh) (by omega)
        go_wp2_with fail
        refine (copy_any lo hi w1 (some ⟨b, off + (X + l), none⟩) m m _ hp (by omega) (by omega)).mono ?_
        rintro e w2 ⟨v, rfl, ho, hb2⟩
        go_wp2
        go_ret3
        obtain ⟨q, k, rfl, g1, g2, g3⟩ := ho.own hp.wf
        rw [hp.len]
        exact ⟨_, _, rfl, g3.more hs (Nat.le_refl _), g1, g2, hb.trans (hb2.mono hs)⟩
    · have h1 : rbL zs x mx = [] := by unfold rbL; rw [hR]; exact if_neg hok
      have h2 : rbQ zs x mx = 0 := by unfold rbQ; rw [hR]; exact if_neg hok
      have h3 : rbB zs x mx = false := by unfold rbB; rw [hR]; exact decide_eq_false hok
      rw [h1, h2, h3]
      have HR := Lib.hid hR
      have HO := Lib.hid hok
      clear hR h1 h2 h3 hok
      by_cases hmx : (m : Int) ≤ mx
      · have hlong : (n : Int) - (x + (l : Int)) < m := by
          have := HO.out; have := HL.out; omega
        go_enter Try.func21, Try.ntmps21
        go_wp2_with fail
        refine (impl_some hr hh hn hx HR).mono ?_
        rintro e w1 ⟨rfl, hb⟩
        have hs := hb.size
        go_wp2
        go_ret3
        exact ⟨_, _, rfl, Own.nil _ _ _ _ _, Nat.le_refl _, Nat.zero_le _, hb.alloc hs _⟩
      · have hmx2 : decide (mx < (m : Int)) = true := by simp; omega
        go_enter Try.func21, Try.ntmps21
        go_wp2_with fail
        refine (impl_some hr hh hn hx HR).mono ?_
        rintro e w1 ⟨rfl, hb⟩
        have hs := hb.size
        go_wp2
        go_ret3
        exact ⟨_, _, rfl, Own.nil _ _ _ _ _, Nat.le_refl _, Nat.zero_le _, hb.alloc hs _⟩
set_option maxHeartbeats 1000000 in
set_option maxRecDepth 100000 in
theorem bytes_spec (lo hi : Nat) (w : World) (a : Option Addr) (n c : Nat) (x mx : Int) (zs : List Int) (hr : Row .u8 lo hi w a n zs) (hh : hi ≤ w.heap.size) (hn : n ≤ 35184372088832) (hc : n ≤ c) (hc2 : c ≤ 9223372036854775807) (hx : x ≤ 9223372036854775807) :
    Calls Try.prog 32 #[.slice a n c, .int .i64 x, .int .i64 mx] w (Slice3 .u8 w.heap.size (rbL zs x mx).length (rbL zs x mx) (rbQ zs x mx) (rbB zs x mx) w) := by
  obtain ⟨i0, hi0, hz0, hz1, hz2⟩ := info_parts Byt.info
  have HL := Lib.hid hr.len
  have hn0 := Own.nil .u8 w.heap.size
  cases hR : rdAt zs x with
  | none =>
    have h1 : rbL zs x mx = [] := by unfold rbL; rw [hR]
    have h2 : rbQ zs x mx = 0 := by unfold rbQ; rw [hR]
    have h3 : rbB zs x mx = false := by unfold rbB; rw [hR]
    rw [h1, h2, h3]
    have HR := Lib.hid hR
    clear hR h1 h2 h3
    go_enter Try.func32, Try.ntmps32
    go_wp2_with fail
    refine (spec_none hr hh hn hx HR).mono ?_
    rintro e w1 ⟨rfl, hb⟩
    have hs := hb.size
    go_wp2
    go_ret3
    exact ⟨_, _, rfl, Own.nil _ _ _ _ _, Nat.le_refl _, Nat.zero_le _, hb.alloc hs _⟩
  | some ml =>
    obtain ⟨m, l⟩ := ml
    obtain ⟨x0, m1, l0, l1, hxl⟩ := rdAt_some hR
    have hxn : x + (l : Int) ≤ n := by have := HL.out; omega
    clear hxl
    by_cases hok : (m : Int) ≤ mx ∧ (m : Int) + x + l ≤ zs.length
    · have h1 : rbL zs x mx = (zs.drop (x.toNat + l)).take m := by unfold rbL; rw [hR]; exact if_pos hok
      have h2 : rbQ zs x mx = x + l + m := by unfold rbQ; rw [hR]; exact if_pos hok
      have h3 : rbB zs x mx = true := by unfold rbB; rw [hR]; exact decide_eq_true hok
      rw [h1, h2, h3]
      obtain ⟨hok1, hok2⟩ := hok
      have hok3 : (m : Int) + x + l ≤ n := by have := HL.out; omega
      have HR := Lib.hid hR
      clear hR h1 h2 h3 hok2
      obtain ⟨X, rfl⟩ : ∃ X : Nat, x = X := ⟨x.toNat, by omega⟩
      rw [Int.toNat_natCast]
      rcases Nat.eq_zero_or_pos m with rfl | hm
      · by_cases hcc : c = X + l
        · subst hcc
          go_enter Try.func32, Try.ntmps32
          go_wp2_with fail
          refine (spec_some hr hh hn hx HR).mono ?_
          rintro e w1 ⟨rfl, hb⟩
          have hs := hb.size
          have hown := OwnI.made .u8 5 (base := w.heap.size) w1 hs
          have hb1 := hb.alloc hs (.cells #[] 5)
          go_wp2_with (at_builtin; refine wpList_append_row rfl _ _ 22 rfl w.heap.size 5 i0 _ 1 Try.underlying22 hi0 hz0 hz1 hz2 rfl _ 0 [] rfl hown 0 0 _ 0 _ [] rfl (Row.nil _ _ _ _ _) ?c1 ?c2 ?c3 ?_; (case c1 => unfold maxLen; omega); (case c2 => omega); (case c3 => simp; omega); intro v3 w3 ho3 hb3)
          go_ret3
          rw [List.nil_append, Nat.zero_add] at ho3
          obtain ⟨q, k, rfl, g1, g2, g3⟩ := ho3.own (by simp)
          exact ⟨_, _, rfl, g3, g1, g2, hb1.trans hb3⟩
        · have hcc2 : ¬ c - (X + l) = 0 := by omega
          go_enter Try.func32, Try.ntmps32
          go_wp2_with fail
          refine (spec_some hr hh hn hx HR).mono ?_
          rintro e w1 ⟨rfl, hb⟩
          have hs := hb.size
          have hown := OwnI.made .u8 5 (base := w.heap.size) w1 hs
          have hb1 := hb.alloc hs (.cells #[] 5)
          go_wp2_with (at_builtin; refine wpList_append_row rfl _ _ 22 rfl w.heap.size 5 i0 _ 1 Try.underlying22 hi0 hz0 hz1 hz2 rfl _ 0 [] rfl hown 0 0 _ 0 _ [] rfl (Row.nil _ _ _ _ _) ?c1 ?c2 ?c3 ?_; (case c1 => unfold maxLen; omega); (case c2 => omega); (case c3 => simp; omega); intro v3 w3 ho3 hb3)
          go_ret3
          rw [List.nil_append, Nat.zero_add] at ho3
          obtain ⟨q, k, rfl, g1, g2, g3⟩ := ho3.own (by simp)
          exact ⟨_, _, rfl, g3, g1, g2, hb1.trans hb3⟩
      · obtain ⟨b, off, rfl, _⟩ := hr.here (by omega)
        have hcc2 : ¬ c - (X + l) = 0 := by omega
        go_enter Try.func32, Try.ntmps32
        go_wp2_with fail
        refine (spec_some hr hh hn hx HR).mono ?_
        rintro e w1 ⟨rfl, hb⟩
        have hs := hb.size
        have hp := (Row.part (s := X + l) (m := m) (hr.under hb hh) (by omega)).keep (w' := w1.alloc (.cells #[] 5)) (fun i hi _ _ => Below.heap_alloc _ _ _ hi)
        have hm2 := Lib.hid (show X + l + m - (X + l) = m by omega)
        have hp2 : Row .u8 lo hi (w1.alloc (.cells #[] 5)) (some ⟨b, off + (X + l), none⟩) (X + l + m - (X + l)) ((zs.drop (X + l)).take m) := by rw [hm2.out]; exact hp
        have hown := OwnI.made .u8 5 (base := w.heap.size) w1 hs
        have hb1 := hb.alloc hs (.cells #[] 5)
        go_wp2_with (at_builtin; refine wpList_append_row rfl _ _ 22 rfl w.heap.size 5 i0 _ 1 Try.underlying22 hi0 hz0 hz1 hz2 rfl _ 0 [] rfl hown lo hi _ (X + l + m - (X + l)) _ _ rfl hp2 ?c1 ?c2 ?c3 ?_; (case c1 => unfold maxLen; omega); (case c2 => omega); (case c3 => simp; omega); intro v3 w3 ho3 hb3)
        go_ret3
        rw [hm2.out] at ho3
        rw [List.nil_append, Nat.zero_add] at ho3
        obtain ⟨q, k, rfl, g1, g2, g3⟩ := ho3.own hp.wf
        rw [hp.len]
        exact ⟨_, _, rfl, g3, g1, g2, hb1.trans hb3⟩
    · have h1 : rbL zs x mx = [] := by unfold rbL; rw [hR]; exact if_neg hok
      have h2 : rbQ zs x mx = 0 := by unfold rbQ; rw [hR]; exact if_neg hok
      have h3 : rbB zs x mx = false := by unfold rbB; rw [hR]; exact decide_eq_false hok
      rw [h1, h2, h3]
      have HR := Lib.hid hR
      have HO := Lib.hid hok
      clear hR h1 h2 h3 hok
      by_cases hmx : (m : Int) ≤ mx
      · have hlong : (n : Int) - (x + (l : Int)) < m := by
          have := HO.out; have := HL.out; omega
        go_enter Try.func32, Try.ntmps32
        go_wp2_with fail
        refine (spec_some hr hh hn hx HR).mono ?_
        rintro e w1 ⟨rfl, hb⟩
        have hs := hb.size
        go_wp2
        go_ret3
        exact ⟨_, _, rfl, Own.nil _ _ _ _ _, Nat.le_refl _, Nat.zero_le _, hb.alloc hs _⟩
      · have hmx2 : decide (mx < (m : Int)) = true := by simp; omega
        go_enter Try.func32, Try.ntmps32
        go_wp2_with fail
        refine (spec_some hr hh hn hx HR).mono ?_
        rintro e w1 ⟨rfl, hb⟩
        have hs := hb.size
        go_wp2
        go_ret3
        exact ⟨_, _, rfl, Own.nil _ _ _ _ _, Nat.le_refl _, Nat.zero_le _, hb.alloc hs _⟩
/-- ReadUvarint's three answers. -/
def rM (zs : List Int) (x : Int) : Int := match rdAt zs x with | none => 0 | some (m, _) => m
def rQ (zs : List Int) (x : Int) : Int := match rdAt zs x with | none => 0 | some (_, l) => x + l
def rB (zs : List Int) (x : Int) : Bool := match rdAt zs x with | none => false | some _ => true
theorem readEnd_eq (zs : List Int) (x : Int) : readEnd (rdAt zs x) x = .returned (.tuple #[.int .i64 (rM zs x), .int .i64 (rQ zs x), .bool (rB zs x)]) := by
  unfold readEnd rM rQ rB
  cases rdAt zs x with
  | none => rfl
  | some ml => rfl
theorem impl_law (lo hi : Nat) (w : World) (a : Option Addr) (n c : Nat) (x : Int) (zs : List Int) (hr : Row .u8 lo hi w a n zs) (hh : hi ≤ w.heap.size) (hn : n ≤ 35184372088832) (hx : x ≤ 9223372036854775807) :
    Calls Try.prog 15 #[.slice a n c, .int .i64 x] w fun e w' => e = .returned (.tuple #[.int .i64 (rM zs x), .int .i64 (rQ zs x), .bool (rB zs x)]) ∧ Below w.heap.size w w' := by
  have := impl_any lo hi w a n c x zs hr hh hn hx
  unfold Reading at this
  rw [readEnd_eq] at this
  exact this
theorem spec_law (lo hi : Nat) (w : World) (a : Option Addr) (n c : Nat) (x : Int) (zs : List Int) (hr : Row .u8 lo hi w a n zs) (hh : hi ≤ w.heap.size) (hn : n ≤ 35184372088832) (hx : x ≤ 9223372036854775807) :
    Calls Try.prog 18 #[.slice a n c, .int .i64 x] w fun e w' => e = .returned (.tuple #[.int .i64 (rM zs x), .int .i64 (rQ zs x), .bool (rB zs x)]) ∧ Below w.heap.size w w' := by
  have := spec_any lo hi w a n c x zs hr hh hn hx
  unfold Reading at this
  rw [readEnd_eq] at this
  exact this

theorem rbL_len (zs : List Int) (x mx : Int) : (rbL zs x mx).length ≤ zs.length := by
  unfold rbL
  split
  · simp
  · split
    · simp; omega
    · simp
end Go.Proofs.Ytplkkmjfglgecaa.Read
