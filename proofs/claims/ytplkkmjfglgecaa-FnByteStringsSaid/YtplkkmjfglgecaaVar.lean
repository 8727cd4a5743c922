/-
  The program's and the model's varints: what is appended, and the copies that they begin with.
  Conditions: the rows lie in memory that was there and are shorter than 2^45.
-/
import Derived.Test.YtplkkmjfglgecaaBytes
import Derived.Test.YtplkkmjfglgecaaVarMath
import Derived.Test.YtplkkmjfglgecaaRange
import Derived.Laws.BitsAllLaws
namespace Go.Proofs.Ytplkkmjfglgecaa.Var
open Go Go.RowKit Go.Proofs.Ytplkkmjfglgecaa.Mem

/-- What AppendUvarint leaves of a list. -/
def app (zs : List Int) (x : Int) : List Int := if 0 ≤ x ∧ x ≤ 1000000000000 then zs ++ uv x.toNat else zs
theorem app_in (zs : List Int) (x : Int) (h0 : 0 ≤ x) (h1 : x ≤ 1000000000000) : app zs x = zs ++ uv x.toNat := if_pos ⟨h0, h1⟩
theorem app_out (zs : List Int) (x : Int) (h : x < 0 ∨ 1000000000000 < x) : app zs x = zs := if_neg (by omega)
theorem app_len (zs : List Int) (x : Int) : zs.length ≤ (app zs x).length ∧ (app zs x).length ≤ zs.length + 6 := by
  unfold app
  split
  · have := uv_len6 (n := x.toNat) (by omega); simp; omega
  · omega
theorem wf_uv (n : Nat) : ∀ z ∈ uv n, (Lit.int .u8 z).wf = true := fun z hz => WalkArith.wf_u8 (uv_byte n z hz)
theorem wf_app {zs : List Int} (x : Int) (h : ∀ z ∈ zs, (Lit.int .u8 z).wf = true) : ∀ z ∈ app zs x, (Lit.int .u8 z).wf = true := by
  unfold app
  split
  · intro z hz
    rcases List.mem_append.1 hz with hz | hz
    · exact h z hz
    · exact wf_uv _ z hz
  · exact h

/-- What a call that hands back a row of the call's own has done. -/
def Rowed (base : Nat) (n : Nat) (zs : List Int) (w : World) (e : Ending) (w' : World) : Prop :=
  ∃ v, e = .returned v ∧ OwnI .u8 5 base w' v n zs ∧ Below base w w'

set_option maxRecDepth 100000 in
theorem copy_any (lo hi : Nat) (w : World) (a : Option Addr) (n c : Nat) (zs : List Int) (hr : Row .u8 lo hi w a n zs) (hh : hi ≤ w.heap.size) (hn : n ≤ 35184372088832) :
    Calls Try.prog 46 #[.slice a n c] w (Rowed w.heap.size n zs w) := by
  obtain ⟨i0, hi0, hz0, hz1, hz2⟩ := info_parts Byt.info
  have hs := OwnI.made .u8 5 (base := w.heap.size) w (Nat.le_refl _)
  have hb := (Below.refl w.heap.size w).alloc (Nat.le_refl _) (.cells #[] 5)
  have hr1 := hr.under hb hh
  go_enter Try.func46, Try.ntmps46
  go_wp2_with (at_builtin; refine wpList_append_row rfl _ _ 22 rfl w.heap.size 5 i0 _ 1 Try.underlying22 hi0 hz0 hz1 hz2 rfl _ 0 [] rfl hs lo hi a n c zs rfl hr1 (by unfold maxLen; omega) (by omega) (by simp) ?_; intro v' w' ho hb')
  go_ret
  rw [List.nil_append, Nat.zero_add] at ho
  exact ⟨v', rfl, ho, hb.trans hb'⟩

theorem groups (zs xs : List Int) (x m : Nat) (h : zs ++ uv m = xs ++ uv x) (hm : 128 ≤ m) : (zs ++ [((m % 128 + 128 : Nat) : Int)]) ++ uv (m / 128) = xs ++ uv x := by
  rw [← h, uv_great (n := m) (by omega), List.append_assoc]; rfl
theorem groups_len {zs xs : List Int} {x m : Nat} (h : zs ++ uv m = xs ++ uv x) (hx : x ≤ 1000000000000) : zs.length + 1 ≤ xs.length + 6 := by
  have h1 := uv_len6 hx
  have h2 : 1 ≤ (uv m).length := by
    by_cases hm : m < 128
    · rw [uv_small hm]; simp
    · rw [uv_great hm]; simp
  have h3 := congrArg List.length h
  simp at h3
  omega

set_option maxHeartbeats 1000000 in
set_option maxRecDepth 100000 in
theorem with_in (base n x : Nat) (w : World) (v : Value) (xs : List Int) (ho : OwnI .u8 5 base w v n xs) (hb : base ≤ w.heap.size) (hn : n ≤ 35184372088840) (hx : x ≤ 1000000000000) :
    Calls Try.prog 45 #[v, .int .i64 x] w (Rowed base (n + (uv x).length) (xs ++ uv x) w) := by
  obtain ⟨i0, hi0, hz0, hz1, hz2⟩ := info_parts Byt.info
  have hxl := Lib.hid ho.len
  have HX := Lib.hid hx
  go_enter Try.func45, Try.ntmps45
  go_wp2_with (go_at_call 52; refine (Range.in_yes _ _ _ _ (by omega) (by omega)).mono ?_; rintro e w' ⟨rfl, rfl⟩)
  go_loopw [0, 1] (fun v m wr => ∃ (k : Nat) (zs : List Int) (q : Nat), m = .int .i64 q ∧ q ≤ 1000000000000 ∧ Hid (zs ++ uv q = xs ++ uv x) ∧ OwnI .u8 5 base wr v k zs ∧ Below base w wr) (fun _ m _ => (intOf m).toNat)
  case atStart => exact ⟨n, xs, x, rfl, hx, rfl, ho, Below.refl _ _⟩
  case round =>
    obtain ⟨k, zs, q, rfl, hq, hg, hw, hbw⟩ := hrel
    clear ho
    have hk := hw.len
    have hl := groups_len hg.out hx
    rw [hxl.out, hk] at hl
    have HK := Lib.hid hk
    clear hk
    have hbs := Nat.le_trans hb hbw.size
    by_cases hge : 128 ≤ q
    · have hw1 := hw.alloc (.cells #[.int .u8 ((q % 128 + 128 : Nat) : Int)] 5)
      go_wp2_with (at_builtin; refine wpList_append_one rfl _ _ 22 rfl base 5 i0 _ 1 Try.underlying22 hi0 hz0 hz1 hz2 rfl _ k zs rfl hw1 wr.heap.size 1 ((q % 128 + 128 : Nat) : Int) rfl ?c2 ?c3 ?c4 ?c5 ?_; (case c2 => rw [World.cell?_alloc_at _ _ _ _ rfl]; rfl); (case c3 => unfold maxLen; omega); (case c4 => omega); (case c5 => simp; omega); intro v' w' ho hb')
      go_roundw
      case rel => exact ⟨_, _, q / 128, by go_num, by omega, groups _ _ _ _ hg.out hge, ho, (hbw.alloc hbs _).trans hb'⟩
      case measure => simp [intOf]; omega
    · have hge' : decide ((128 : Int) ≤ (q : Int)) = false := by simp; omega
      have hw1 := hw.alloc (.cells #[.int .u8 (q : Int)] 5)
      go_wp2_with (at_builtin; refine wpList_append_one rfl _ _ 22 rfl base 5 i0 _ 1 Try.underlying22 hi0 hz0 hz1 hz2 rfl _ k zs rfl hw1 wr.heap.size 1 (q : Int) rfl ?c2 ?c3 ?c4 ?c5 ?_; (case c2 => rw [World.cell?_alloc_at _ _ _ _ rfl]; rfl); (case c3 => unfold maxLen; omega); (case c4 => omega); (case c5 => simp; omega); intro v' w' ho hb')
      go_ret
      have he := hg.out
      rw [uv_small (n := q) (by omega)] at he
      rw [he] at ho
      have hk2 : k + 1 = n + (uv x).length := by
        have := congrArg List.length he
        simp at this
        have h2 := HK.out
        have h3 := hxl.out
        omega
      rw [hk2] at ho
      exact ⟨_, rfl, ho, (hbw.alloc hbs _).trans hb'⟩

set_option maxRecDepth 100000 in
theorem with_out (base n : Nat) (x : Int) (w : World) (v : Value) (xs : List Int) (ho : OwnI .u8 5 base w v n xs) (hx : x < 0 ∨ 1000000000000 < x) :
    Calls Try.prog 45 #[v, .int .i64 x] w (Rowed base n xs w) := by
  go_enter Try.func45, Try.ntmps45
  go_wp2_with (go_at_call 52; refine (Range.in_no _ _ _ _ hx).mono ?_; rintro e w' ⟨rfl, rfl⟩)
  go_ret
  exact ⟨_, rfl, ho, Below.refl _ _⟩

theorem with_any (base n : Nat) (x : Int) (w : World) (v : Value) (xs : List Int) (ho : OwnI .u8 5 base w v n xs) (hb : base ≤ w.heap.size) (hn : n ≤ 35184372088840) :
    Calls Try.prog 45 #[v, .int .i64 x] w (Rowed base (app xs x).length (app xs x) w) := by
  have hl := ho.len
  by_cases h : 0 ≤ x ∧ x ≤ 1000000000000
  · have := with_in base n x.toNat w v xs ho hb hn (by omega)
    have hc : ((x.toNat : Nat) : Int) = x := by omega
    rw [hc] at this
    rw [app_in xs x h.1 h.2, List.length_append, hl]
    exact this
  · rw [app_out xs x (by omega), hl]
    exact with_out base n x w v xs ho (by omega)

set_option maxRecDepth 100000 in
theorem append_any (lo hi : Nat) (x : Int) (w : World) (a : Option Addr) (n c : Nat) (zs : List Int) (hr : Row .u8 lo hi w a n zs) (hh : hi ≤ w.heap.size) (hn : n ≤ 35184372088832) :
    Calls Try.prog 14 #[.slice a n c, .int .i64 x] w (Rowed w.heap.size (app zs x).length (app zs x) w) := by
  go_enter Try.func14, Try.ntmps14
  go_wp2_with fail
  refine (copy_any lo hi w a n c zs hr hh hn).mono ?_
  rintro e w1 ⟨v, rfl, ho, hb⟩
  go_wp2_with fail
  refine (with_any w.heap.size n x w1 v zs ho hb.size (by omega)).mono ?_
  rintro e w2 ⟨v2, rfl, ho2, hb2⟩
  go_wp2
  go_ret
  exact ⟨_, rfl, ho2, hb.trans hb2⟩

theorem Rowed.slice {base n : Nat} {zs : List Int} {w : World} {e : Ending} {w' : World} (h : Rowed base n zs w e w') (hwf : ∀ z ∈ zs, (Lit.int .u8 z).wf = true) : Slice .u8 base n zs w e w' := by
  obtain ⟨v, rfl, ho, hb⟩ := h
  obtain ⟨a, c, rfl, h1, h2, h3⟩ := ho.own hwf
  exact ⟨a, c, rfl, h3, h1, h2, hb⟩
theorem append_slice (lo hi : Nat) (x : Int) (w : World) (a : Option Addr) (n c : Nat) (zs : List Int) (hr : Row .u8 lo hi w a n zs) (hh : hi ≤ w.heap.size) (hn : n ≤ 35184372088832) :
    Calls Try.prog 14 #[.slice a n c, .int .i64 x] w (Slice .u8 w.heap.size (app zs x).length (app zs x) w) :=
  (append_any lo hi x w a n c zs hr hh hn).mono fun _ _ h => h.slice (wf_app x hr.wf)

/-! The model. -/
theorem ofInt_i64 (a : Nat) (ha : a < 9223372036854775808) : (BitVec.ofInt 64 (a : Int)).toNat = a := by
  rw [BitVec.ofInt_natCast, BitVec.toNat_ofNat]; exact Nat.mod_eq_of_lt (by omega)
theorem and127 (q : Nat) (hq : q ≤ 1000000000000) : bits .and .i64 (q : Int) 127 = ((q % 128 : Nat) : Int) := by
  have h127 : (BitVec.ofInt 64 127).toNat = 2 ^ 7 - 1 := by decide
  show IntKind.i64.wrap ((BitVec.ofInt 64 (q : Int) &&& BitVec.ofInt 64 127).toNat : Int) = _
  rw [BitVec.toNat_and, ofInt_i64 q (by omega), h127, Nat.and_two_pow_sub_one_eq_mod, IntKind.wrap_i64]
  omega
theorem or_disjoint (a k : Nat) (b : Nat) (ha : a < 2 ^ k) : a ||| b * 2 ^ k = a + b * 2 ^ k := by
  have := Nat.two_pow_add_eq_or_of_lt ha b
  rw [Nat.mul_comm] at this
  rw [Nat.or_comm, ← this]; omega
theorem or128 (q : Nat) (hq : q < 128) : bits .or .i64 (q : Int) 128 = ((q + 128 : Nat) : Int) := by
  show IntKind.i64.wrap ((BitVec.ofInt 64 (q : Int) ||| BitVec.ofInt 64 128).toNat : Int) = _
  have h128 : (BitVec.ofInt 64 128).toNat = 1 * 2 ^ 7 := by decide
  rw [BitVec.toNat_or, ofInt_i64 q (by omega), h128, or_disjoint q 7 1 (by omega), IntKind.wrap_i64]
  omega

set_option maxHeartbeats 1000000 in
set_option maxRecDepth 100000 in
theorem model_any (lo hi : Nat) (x : Int) (w : World) (a : Option Addr) (n c : Nat) (zs : List Int) (hr : Row .u8 lo hi w a n zs) (hh : hi ≤ w.heap.size) (hn : n ≤ 35184372088832) :
    Calls Try.prog 26 #[.slice a n c, .int .i64 x] w (Rowed w.heap.size (app zs x).length (app zs x) w) := by
  obtain ⟨i0, hi0, hz0, hz1, hz2⟩ := info_parts Byt.info
  have hs := OwnI.made .u8 5 (base := w.heap.size) w (Nat.le_refl _)
  have hb := (Below.refl w.heap.size w).alloc (Nat.le_refl _) (.cells #[] 5)
  have hr1 := hr.under hb hh
  have HL := Lib.hid hr.len
  by_cases hx : 0 ≤ x ∧ x ≤ 1000000000000
  · obtain ⟨hx0, hx1⟩ := hx
    rw [app_in zs x hx0 hx1]
    obtain ⟨X, rfl⟩ : ∃ X : Nat, x = X := ⟨x.toNat, by omega⟩
    rw [Int.toNat_natCast]
    go_enter Try.func26, Try.ntmps26
    go_wp2_with (first | (at_builtin; refine wpList_append_row rfl _ _ 22 rfl w.heap.size 5 i0 _ 1 Try.underlying22 hi0 hz0 hz1 hz2 rfl _ 0 [] rfl hs lo hi a n c zs rfl hr1 (by unfold maxLen; omega) (by omega) (by simp) ?_; intro v1 w1 ho1 hb1) | (go_at_call 53; refine (Range.l1_yes _ _ _ _ (by omega) (by omega)).mono ?_; rintro e w' ⟨rfl, rfl⟩))
    rw [List.nil_append, Nat.zero_add] at ho1
    have hbw := hb.trans hb1
    go_loopw [1, 5] (fun m v wr => ∃ (k : Nat) (ys : List Int) (q : Nat), m = .int .i64 q ∧ q ≤ 1000000000000 ∧ Hid (ys ++ uv q = zs ++ uv X) ∧ OwnI .u8 5 w.heap.size wr v k ys ∧ Below w.heap.size w wr) (fun m _ _ => (intOf m).toNat)
    case atStart => exact ⟨n, zs, X, rfl, by omega, rfl, ho1, hbw⟩
    case round =>
      obtain ⟨k, ys, q, rfl, hq, hg, hw, hbw'⟩ := hrel
      clear ho1 hbw hs hb
      have hl := groups_len hg.out (by omega)
      rw [HL.out, hw.len] at hl
      have HK := Lib.hid hw.len
      have hbs := hbw'.size
      by_cases hge : 127 < q
      · have hw1 := hw.alloc (.cells #[.int .u8 ((q % 128 + 128 : Nat) : Int)] 5)
        have ha := and127 q hq
        have hor : bits .or .i64 ((q : Int) % 128) 128 = (q : Int) % 128 + 128 := by
          have := or128 (q % 128) (by omega)
          simpa using this
        go_wp2_with (at_builtin; refine wpList_append_one rfl _ _ 22 rfl w.heap.size 5 i0 _ 1 Try.underlying22 hi0 hz0 hz1 hz2 rfl _ k ys rfl hw1 wr.heap.size 1 ((q % 128 + 128 : Nat) : Int) rfl ?c2 ?c3 ?c4 ?c5 ?_; (case c2 => rw [World.cell?_alloc_at _ _ _ _ rfl]; rfl); (case c3 => unfold maxLen; omega); (case c4 => omega); (case c5 => simp; omega); intro v' w' ho hb')
        go_roundw
        case rel => exact ⟨_, _, q / 128, by go_num, by omega, groups _ _ _ _ hg.out (by omega), ho, (hbw'.alloc hbs _).trans hb'⟩
        case measure => simp [intOf]; omega
      · have hge' : decide ((127 : Int) < (q : Int)) = false := by simp; omega
        have hw1 := hw.alloc (.cells #[.int .u8 (q : Int)] 5)
        go_wp2_with (at_builtin; refine wpList_append_one rfl _ _ 22 rfl w.heap.size 5 i0 _ 1 Try.underlying22 hi0 hz0 hz1 hz2 rfl _ k ys rfl hw1 wr.heap.size 1 (q : Int) rfl ?c2 ?c3 ?c4 ?c5 ?_; (case c2 => rw [World.cell?_alloc_at _ _ _ _ rfl]; rfl); (case c3 => unfold maxLen; omega); (case c4 => omega); (case c5 => simp; omega); intro v' w' ho hb')
        go_ret
        have he := hg.out
        rw [uv_small (n := q) (by omega)] at he
        rw [he] at ho
        have hk2 : k + 1 = (zs ++ uv X).length := by
          have := congrArg List.length he
          simp at this
          have h2 := HK.out
          simp
          omega
        rw [hk2] at ho
        exact ⟨_, rfl, ho, (hbw'.alloc hbs _).trans hb'⟩
  · rw [app_out zs x (by omega), HL.out]
    go_enter Try.func26, Try.ntmps26
    go_wp2_with (first | (at_builtin; refine wpList_append_row rfl _ _ 22 rfl w.heap.size 5 i0 _ 1 Try.underlying22 hi0 hz0 hz1 hz2 rfl _ 0 [] rfl hs lo hi a n c zs rfl hr1 (by unfold maxLen; omega) (by omega) (by simp) ?_; intro v1 w1 ho1 hb1) | (go_at_call 53; refine (Range.l1_no _ _ _ _ (by omega)).mono ?_; rintro e w' ⟨rfl, rfl⟩))
    go_ret
    rw [List.nil_append, Nat.zero_add] at ho1
    exact ⟨_, rfl, ho1, hb.trans hb1⟩
theorem model_slice (lo hi : Nat) (x : Int) (w : World) (a : Option Addr) (n c : Nat) (zs : List Int) (hr : Row .u8 lo hi w a n zs) (hh : hi ≤ w.heap.size) (hn : n ≤ 35184372088832) :
    Calls Try.prog 26 #[.slice a n c, .int .i64 x] w (Slice .u8 w.heap.size (app zs x).length (app zs x) w) :=
  (model_any lo hi x w a n c zs hr hh hn).mono fun _ _ h => h.slice (wf_app x hr.wf)
end Go.Proofs.Ytplkkmjfglgecaa.Var
