/-
  AppendBytes and EncodeInts, of the program and of the model.
  Conditions: the rows lie in memory; they have at most 2^21 elements.
-/
import Derived.Test.YtplkkmjfglgecaaVar
import Derived.Test.YtplkkmjfglgecaaInts
namespace Go.Proofs.Ytplkkmjfglgecaa.Var
open Go Go.RowKit Go.Proofs.Ytplkkmjfglgecaa.Mem

/-- A byte string's encoding behind a list. -/
def appB (xs ys : List Int) : List Int := app xs ys.length ++ ys
theorem appB_len (xs ys : List Int) : (appB xs ys).length ≤ xs.length + 6 + ys.length := by
  have := (app_len xs ys.length).2
  unfold appB
  simp; omega
theorem wf_appB {xs ys : List Int} (h : ∀ z ∈ xs, (Lit.int .u8 z).wf = true) (h2 : ∀ z ∈ ys, (Lit.int .u8 z).wf = true) : ∀ z ∈ appB xs ys, (Lit.int .u8 z).wf = true := by
  intro z hz
  rcases List.mem_append.1 hz with hz | hz
  · exact wf_app _ h z hz
  · exact h2 z hz

set_option maxHeartbeats 1000000 in
set_option maxRecDepth 100000 in
theorem bytes_impl (l1 h1 l2 h2 : Nat) (w : World) (a b : Option Addr) (n m c d : Nat) (xs ys : List Int) (ha : Row .u8 l1 h1 w a n xs) (hb : Row .u8 l2 h2 w b m ys) (hh : h1 ≤ w.heap.size) (hh2 : h2 ≤ w.heap.size) (hn : n ≤ 2097152) (hm : m ≤ 2097152) :
    Calls Try.prog 20 #[.slice a n c, .slice b m d] w (Slice .u8 w.heap.size (appB xs ys).length (appB xs ys) w) := by
  obtain ⟨i0, hi0, hz0, hz1, hz2⟩ := info_parts Byt.info
  have hx := Lib.hid ha.len
  have hy := Lib.hid hb.len
  have hl := app_len xs m
  rw [hx.out] at hl
  obtain ⟨hl1, hl2⟩ := hl
  go_enter Try.func20, Try.ntmps20
  go_wp2_with fail
  refine (copy_any l1 h1 w a n c xs ha hh (by omega)).mono ?_
  rintro e w1 ⟨v, rfl, ho, hb1⟩
  have hr1 := hb.under hb1 hh2
  have hs1 := hb1.size
  go_wp2_with fail
  refine (with_any w.heap.size n m w1 v xs ho hb1.size (by omega)).mono ?_
  rintro e w2 ⟨v2, rfl, ho2, hb2⟩
  have hr2 := hr1.under hb2 hh2
  have hs2 := hb2.size
  go_wp2_with (at_builtin; refine wpList_append_row rfl _ _ 22 rfl w.heap.size 5 i0 _ 1 Try.underlying22 hi0 hz0 hz1 hz2 rfl v2 (app xs m).length (app xs m) rfl ho2 l2 h2 b m d ys rfl hr2 ?c1 ?c2 ?c3 ?_; (case c1 => unfold maxLen; omega); (case c2 => omega); (case c3 => omega); intro v3 w3 ho3 hb3)
  go_ret
  obtain ⟨q, k, rfl, g1, g2, g3⟩ := ho3.own (by
    have := wf_appB ha.wf hb.wf
    unfold appB at this; rw [hy.out] at this; exact this)
  have he : appB xs ys = app xs m ++ ys := by unfold appB; rw [hy.out]
  rw [he, List.length_append, hy.out]
  exact ⟨_, _, rfl, g3, g1, g2, (hb1.trans hb2).trans hb3⟩

set_option maxHeartbeats 1000000 in
set_option maxRecDepth 100000 in
theorem bytes_spec (l1 h1 l2 h2 : Nat) (w : World) (a b : Option Addr) (n m c d : Nat) (xs ys : List Int) (ha : Row .u8 l1 h1 w a n xs) (hb : Row .u8 l2 h2 w b m ys) (hh : h1 ≤ w.heap.size) (hh2 : h2 ≤ w.heap.size) (hn : n ≤ 2097152) (hm : m ≤ 2097152) :
    Calls Try.prog 31 #[.slice a n c, .slice b m d] w (Slice .u8 w.heap.size (appB xs ys).length (appB xs ys) w) := by
  obtain ⟨i0, hi0, hz0, hz1, hz2⟩ := info_parts Byt.info
  have hx := Lib.hid ha.len
  have hy := Lib.hid hb.len
  have hl := app_len xs m
  rw [hx.out] at hl
  obtain ⟨hl1, hl2⟩ := hl
  go_enter Try.func31, Try.ntmps31
  go_wp2_with fail
  refine (model_any l1 h1 m w a n c xs ha hh (by omega)).mono ?_
  rintro e w2 ⟨v2, rfl, ho2, hb2⟩
  have hr2 := hb.under hb2 hh2
  have hs2 := hb2.size
  go_wp2_with (at_builtin; refine wpList_append_row rfl _ _ 22 rfl w.heap.size 5 i0 _ 1 Try.underlying22 hi0 hz0 hz1 hz2 rfl v2 (app xs m).length (app xs m) rfl ho2 l2 h2 b m d ys rfl hr2 ?c1 ?c2 ?c3 ?_; (case c1 => unfold maxLen; omega); (case c2 => omega); (case c3 => omega); intro v3 w3 ho3 hb3)
  go_ret
  obtain ⟨q, k, rfl, g1, g2, g3⟩ := ho3.own (by
    have := wf_appB ha.wf hb.wf
    unfold appB at this; rw [hy.out] at this; exact this)
  have he : appB xs ys = app xs m ++ ys := by unfold appB; rw [hy.out]
  rw [he, List.length_append, hy.out]
  exact ⟨_, _, rfl, g3, g1, g2, hb2.trans hb3⟩

/-- The varints of a list. -/
def enc (zs : List Int) : List Int := zs.foldl app []
theorem enc_nil : enc [] = [] := rfl
theorem enc_next (zs : List Int) (j : Nat) (hj : j < zs.length) : app (enc (zs.take j)) (zs.getD j 0) = enc (zs.take (j + 1)) := by
  unfold enc
  rw [List.take_succ_eq_append_getElem hj, List.foldl_append, List.getD_eq_getElem?_getD, List.getElem?_eq_getElem hj]
  rfl
theorem enc_len_from (zs : List Int) : ∀ xs : List Int, (zs.foldl app xs).length ≤ xs.length + 6 * zs.length := by
  induction zs with
  | nil => intro xs; simp
  | cons z zs ih =>
    intro xs
    have := (app_len xs z).2
    have := ih (app xs z)
    simp only [List.foldl_cons, List.length_cons]
    omega
theorem enc_len (zs : List Int) : (enc zs).length ≤ 6 * zs.length := by have := enc_len_from zs []; unfold enc; simpa using this
theorem enc_len_take (zs : List Int) (j : Nat) : (enc (zs.take j)).length ≤ 6 * j := by
  have := enc_len (zs.take j)
  have h2 : (zs.take j).length ≤ j := List.length_take_le _ _
  omega
theorem wf_enc_from (zs : List Int) : ∀ xs : List Int, (∀ z ∈ xs, (Lit.int .u8 z).wf = true) → ∀ z ∈ zs.foldl app xs, (Lit.int .u8 z).wf = true := by
  induction zs with
  | nil => intro xs h; exact h
  | cons z zs ih => intro xs h; exact ih _ (wf_app z h)
theorem wf_enc (zs : List Int) : ∀ z ∈ enc zs, (Lit.int .u8 z).wf = true := wf_enc_from zs [] (by simp)

set_option maxHeartbeats 1000000 in
set_option maxRecDepth 100000 in
theorem encode_impl (lo hi : Nat) (w : World) (a : Option Addr) (n c : Nat) (zs : List Int) (ha : Row .i64 lo hi w a n zs) (hh : hi ≤ w.heap.size) (hn : n ≤ 2097152) :
    Calls Try.prog 23 #[.slice a n c] w (Slice .u8 w.heap.size (enc zs).length (enc zs) w) := by
  have HL := Lib.hid ha.len
  have hs := OwnI.made .u8 5 (base := w.heap.size) w (Nat.le_refl _)
  have hb := (Below.refl w.heap.size w).alloc (Nat.le_refl _) (.cells #[] 5)
  go_enter Try.func23, Try.ntmps23
  go_wp2
  go_loopw [3, 5, 9] (fun v x i wr => ∃ j : Nat, j ≤ n ∧ i = .int .i64 j ∧ OwnI .u8 5 w.heap.size wr v (enc (zs.take j)).length (enc (zs.take j)) ∧ Below w.heap.size w wr) (fun _ _ i _ => n - (intOf i).toNat)
  case atStart => exact ⟨0, Nat.zero_le _, rfl, hs, hb⟩
  case round =>
    obtain ⟨j, hj, rfl, ho, hbw⟩ := hrel
    clear hs hb
    by_cases hlt : j < n
    · obtain ⟨b, off, rfl, _, _, hc⟩ := (ha.under hbw hh).cell hlt
      have hle := enc_len_take zs j
      have hbs := hbw.size
      have HN := Lib.hid (enc_next zs j (by have := HL.out; omega))
      go_wp2_with fail
      go_at_call 45
      refine (with_any w.heap.size _ (zs.getD j 0) wr _ _ ho hbw.size (by omega)).mono ?_
      rintro e w2 ⟨v2, rfl, ho2, hb2⟩
      rw [HN.out] at ho2
      go_wp2
      go_roundw
      case rel => exact ⟨j + 1, by omega, by go_num, ho2, hbw.trans hb2⟩
      case measure => simp [intOf]; omega
    · have hd : decide ((j : Int) < (n : Int)) = false := by simp; omega
      have HE := Lib.hid (show j = zs.length by have := HL.out; omega)
      go_wp2
      go_ret
      rw [HE.out, List.take_length] at ho
      obtain ⟨q, k, rfl, g1, g2, g3⟩ := ho.own (wf_enc zs)
      exact ⟨_, _, rfl, g3, g1, g2, hbw⟩

set_option maxHeartbeats 1000000 in
set_option maxRecDepth 100000 in
theorem encode_spec (lo hi : Nat) (w : World) (a : Option Addr) (n c : Nat) (zs : List Int) (ha : Row .i64 lo hi w a n zs) (hh : hi ≤ w.heap.size) (hn : n ≤ 2097152) :
    Calls Try.prog 33 #[.slice a n c] w (Slice .u8 w.heap.size (enc zs).length (enc zs) w) := by
  have HL := Lib.hid ha.len
  have hs := OwnI.made .u8 5 (base := w.heap.size) w (Nat.le_refl _)
  have hb := (Below.refl w.heap.size w).alloc (Nat.le_refl _) (.cells #[] 5)
  go_enter Try.func33, Try.ntmps33
  go_wp2
  go_loopw [3, 4] (fun v i wr => ∃ (j k : Nat) (q : Option Addr), j ≤ n ∧ (enc (zs.take j)).length ≤ k ∧ k ≤ maxLen ∧ i = .int .i64 j ∧ v = .slice q (enc (zs.take j)).length k ∧ Own .u8 w.heap.size wr.heap.size wr q (enc (zs.take j)).length (enc (zs.take j)) ∧ Below w.heap.size w wr) (fun _ i _ => n - (intOf i).toNat)
  case atStart => exact ⟨0, _, _, Nat.zero_le _, Nat.le_refl _, Nat.zero_le _, rfl, rfl, Own.nil _ _ _ _ _, hb⟩
  case round =>
    obtain ⟨j, k, q, hj, hk1, hk2, rfl, rfl, ho, hbw⟩ := hrel
    clear hs hb
    have HK1 := Lib.hid hk1
    have HK2 := Lib.hid hk2
    clear hk1 hk2
    by_cases hlt : j < n
    · obtain ⟨b, off, rfl, _, _, hc⟩ := (ha.under hbw hh).cell hlt
      have hle := enc_len_take zs j
      have hbs := hbw.size
      have HN := Lib.hid (enc_next zs j (by have := HL.out; omega))
      go_wp2_with fail
      go_at_call 26
      refine (model_any w.heap.size wr.heap.size (zs.getD j 0) wr _ _ _ _ ho.row (Nat.le_refl _) (by omega)).mono ?_
      rintro e w2 ⟨v2, rfl, ho2, hb2⟩
      rw [HN.out] at ho2
      obtain ⟨q', k', rfl, g1, g2, g3⟩ := ho2.own (wf_enc _)
      go_wp2
      go_roundw
      case rel => exact ⟨j + 1, _, _, by omega, g1, g2, by go_num, rfl, g3.more hbs (Nat.le_refl _), hbw.trans (hb2.mono hbs)⟩
      case measure => simp [intOf]; omega
    · have hd : decide ((j : Int) < (n : Int)) = false := by simp; omega
      have HE := Lib.hid (show j = zs.length by have := HL.out; omega)
      go_wp2
      go_ret
      rw [HE.out, List.take_length] at ho
      have hk1 := HK1.out
      rw [HE.out, List.take_length] at hk1
      rw [HE.out, List.take_length]
      exact ⟨_, _, rfl, ho, hk1, HK2.out, hbw⟩
end Go.Proofs.Ytplkkmjfglgecaa.Var
