/-
  The hash of a list of integers, as a plain function of the list; what changes it.
  Conditions: none; nothing of the program stands here.
-/
import Derived.WalkKit
namespace Go.Proofs.YtedjclnojocjkaaGreatDoor.Hsh
open Go Go.RowKit

/-- One value more. -/
def hstep (d v : Int) : Int := (d * 1000003 + v % 2147483647 + 13) % 2147483647
def hash (zs : List Int) : Int := zs.foldl hstep 11
def khash (k : Int) (zs : List Int) : Int := hash (k :: (zs ++ [k]))

theorem hstep_range (d v : Int) : 0 ≤ hstep d v ∧ hstep d v < 2147483647 := by unfold hstep; omega
theorem fold_range (zs : List Int) : ∀ d : Int, 0 ≤ d → d < 2147483647 → 0 ≤ zs.foldl hstep d ∧ zs.foldl hstep d < 2147483647 := by
  induction zs with
  | nil => intro d h0 h1; exact ⟨h0, h1⟩
  | cons z zs ih => intro d _ _; exact ih _ (hstep_range d z).1 (hstep_range d z).2
theorem hash_range (zs : List Int) : 0 ≤ hash zs ∧ hash zs < 2147483647 := fold_range zs 11 (by omega) (by omega)
theorem khash_range (k : Int) (zs : List Int) : 0 ≤ khash k zs ∧ khash k zs < 2147483647 := hash_range _
theorem hash_next (zs : List Int) (j : Nat) (hj : j < zs.length) : hstep (hash (zs.take j)) (zs.getD j 0) = hash (zs.take (j + 1)) := by
  unfold hash
  rw [List.take_succ_eq_append_getElem hj, List.foldl_append, List.getD_eq_getElem?_getD, List.getElem?_eq_getElem hj]
  rfl
theorem hstep_of {d v r : Int} (h : v % 2147483647 = r) : (d * 1000003 + r + 13) % 2147483647 = hstep d v := by unfold hstep; rw [h]

theorem mod_diff {x y n : Int} (h : x % n = y % n) : ∃ t, x - y = n * t := Int.dvd_of_emod_eq_zero (Int.emod_eq_emod_iff_emod_sub_eq_zero.1 h)
theorem step_diff {x y t : Int} (n : Int) (r : Int) (d e : Int) (hx : x = d * 1000003 + r + 13) (hy : y = e * 1000003 + r + 13) (h : x - y = n * t) : 1000003 * (d - e) = n * t := by omega
theorem inverse {x t : Int} (h : 1000003 * x = 2147483647 * t) : x = 2147483647 * (1523789695 * t - 709572 * x) := by omega
theorem no_multiple {x s : Int} (h : x = 2147483647 * s) (h0 : -2147483647 < x) (h1 : x < 2147483647) : x = 0 := by omega
theorem step_inj {d e r : Int} (d0 : 0 ≤ d) (d1 : d < 2147483647) (e0 : 0 ≤ e) (e1 : e < 2147483647) (h : (d * 1000003 + r + 13) % 2147483647 = (e * 1000003 + r + 13) % 2147483647) : d = e := by
  obtain ⟨t, ht⟩ := mod_diff h
  have h1 := step_diff 2147483647 r d e rfl rfl ht
  have h2 := inverse h1
  clear h ht h1
  have h3 := no_multiple h2
  clear h2
  have h4 := h3 (by omega) (by omega)
  omega
theorem hstep_inj {d e v : Int} (d0 : 0 ≤ d) (d1 : d < 2147483647) (e0 : 0 ≤ e) (e1 : e < 2147483647) (h : hstep d v = hstep e v) : d = e :=
  step_inj (r := v % 2147483647) d0 d1 e0 e1 h
theorem hstep_new {d u v : Int} (h : u % 2147483647 ≠ v % 2147483647) : hstep d u ≠ hstep d v := by unfold hstep; omega
theorem fold_inj (zs : List Int) : ∀ d e : Int, 0 ≤ d → d < 2147483647 → 0 ≤ e → e < 2147483647 → zs.foldl hstep d = zs.foldl hstep e → d = e := by
  induction zs with
  | nil => intro d e _ _ _ _ h; exact h
  | cons z zs ih =>
    intro d e d0 d1 e0 e1 h
    exact hstep_inj d0 d1 e0 e1 (ih _ _ (hstep_range d z).1 (hstep_range d z).2 (hstep_range e z).1 (hstep_range e z).2 h)
theorem fold_set (tl : List Int) (u : Int) : ∀ (zs : List Int) (i : Nat) (d : Int), i < zs.length → u % 2147483647 ≠ zs.getD i 0 % 2147483647 → (zs.set i u ++ tl).foldl hstep d ≠ (zs ++ tl).foldl hstep d := by
  intro zs
  induction zs with
  | nil => intro i d hi; simp at hi
  | cons z zs ih =>
    intro i d hi h
    cases i with
    | zero =>
      intro he
      exact hstep_new (d := d) (by simpa using h) (fold_inj (zs ++ tl) _ _ (hstep_range d u).1 (hstep_range d u).2 (hstep_range d z).1 (hstep_range d z).2 he)
    | succ i => exact ih i (hstep d z) (by simpa using hi) (by simpa using h)
/-- One value that changes modulo the modulus changes the keyed hash. -/
theorem khash_set (k u : Int) (zs : List Int) (i : Nat) (hi : i < zs.length) (h : u % 2147483647 ≠ zs.getD i 0 % 2147483647) : khash k (zs.set i u) ≠ khash k zs :=
  fold_set [k] u zs i (hstep 11 k) hi h

/-! The cipher. -/
def encAt (k : Int) (i : Nat) (z : Int) : Int := (z + khash k [(i : Int)] % 256) % 256
def decAt (k : Int) (i : Nat) (z : Int) : Int := (z - khash k [(i : Int)] % 256) % 256
theorem encAt_range (k : Int) (i : Nat) (z : Int) : 0 ≤ encAt k i z ∧ encAt k i z ≤ 255 := by unfold encAt; omega
theorem decAt_range (k : Int) (i : Nat) (z : Int) : 0 ≤ decAt k i z ∧ decAt k i z ≤ 255 := by unfold decAt; omega
theorem dec_enc (k : Int) (i : Nat) (z : Int) (h0 : 0 ≤ z) (h1 : z ≤ 255) : decAt k i (encAt k i z) = z := by unfold encAt decAt; omega
theorem enc_dec (k : Int) (i : Nat) (z : Int) (h0 : 0 ≤ z) (h1 : z ≤ 255) : encAt k i (decAt k i z) = z := by unfold encAt decAt; omega
/-- A list changed place by place, so far. -/
def upTo (f : Nat → Int → Int) (j : Nat) (zs : List Int) : List Int := (zs.take j).mapIdx f
def all (f : Nat → Int → Int) (zs : List Int) : List Int := zs.mapIdx f
theorem all_len (f : Nat → Int → Int) (zs : List Int) : (all f zs).length = zs.length := by simp [all]
theorem upTo_len (f : Nat → Int → Int) (j : Nat) (zs : List Int) (h : j ≤ zs.length) : (upTo f j zs).length = j := by simp [upTo]; omega
theorem upTo_zero (f : Nat → Int → Int) (zs : List Int) : upTo f 0 zs = [] := by simp [upTo]
theorem upTo_next (f : Nat → Int → Int) (j : Nat) (zs : List Int) (h : j < zs.length) : upTo f j zs ++ [f j (zs.getD j 0)] = upTo f (j + 1) zs := by
  unfold upTo
  rw [List.take_succ_eq_append_getElem h, List.mapIdx_append, List.getD_eq_getElem?_getD, List.getElem?_eq_getElem h]
  simp [Nat.min_eq_left (Nat.le_of_lt h)]
theorem upTo_all (f : Nat → Int → Int) (j : Nat) (zs : List Int) (h : j = zs.length) : upTo f j zs = all f zs := by
  unfold upTo all; rw [h, List.take_length]
/-- So far changed, the rest as it was. -/
def mix (f : Nat → Int → Int) (j : Nat) (zs : List Int) : List Int := upTo f j zs ++ zs.drop j
theorem mix_zero (f : Nat → Int → Int) (zs : List Int) : mix f 0 zs = zs := by simp [mix, upTo]
theorem mix_len (f : Nat → Int → Int) (j : Nat) (zs : List Int) (h : j ≤ zs.length) : (mix f j zs).length = zs.length := by
  unfold mix; rw [List.length_append, upTo_len f j zs h, List.length_drop]; omega
theorem mix_at (f : Nat → Int → Int) (j : Nat) (zs : List Int) (h : j ≤ zs.length) : (mix f j zs).getD j 0 = zs.getD j 0 := by
  have h1 := upTo_len f j zs h
  unfold mix
  rw [List.getD_eq_getElem?_getD, List.getElem?_append_right (by omega), h1, Nat.sub_self, List.getElem?_drop, Nat.add_zero, List.getD_eq_getElem?_getD]
theorem mix_next (f : Nat → Int → Int) (j : Nat) (zs : List Int) (h : j < zs.length) : (mix f j zs).set j (f j (zs.getD j 0)) = mix f (j + 1) zs := by
  have h1 := upTo_len f j zs (by omega)
  unfold mix
  rw [List.set_append_right j _ (by omega), h1, Nat.sub_self, List.drop_eq_getElem_cons h, List.set_cons_zero, ← upTo_next f j zs h, List.append_assoc]
  rfl
theorem mix_all (f : Nat → Int → Int) (j : Nat) (zs : List Int) (h : j = zs.length) : mix f j zs = all f zs := by
  unfold mix; rw [upTo_all f j zs h, h, List.drop_length, List.append_nil]
theorem all_back (f g : Nat → Int → Int) (zs : List Int) (h : ∀ i z, 0 ≤ z → z ≤ 255 → g i (f i z) = z) (hz : ∀ z ∈ zs, 0 ≤ z ∧ z ≤ 255) : all g (all f zs) = zs := by
  unfold all
  apply List.ext_getElem
  · simp
  · intro i h1 h2
    simp only [List.getElem_mapIdx]
    have := hz _ (List.getElem_mem h2)
    exact h i _ this.1 this.2
theorem all_wf (f : Nat → Int → Int) (zs : List Int) (h : ∀ i z, 0 ≤ f i z ∧ f i z ≤ 255) : ∀ z ∈ all f zs, (Lit.int .u8 z).wf = true := by
  intro z hz
  obtain ⟨i, hi, he⟩ := List.mem_iff_getElem.1 hz
  simp only [all, List.getElem_mapIdx] at he
  rw [← he]
  exact WalkArith.wf_u8 (h _ _)

/-! A number modulo the modulus, by Go's remainder. -/
theorem tmod_up {a : Int} (h : 0 ≤ a) : a.tmod 2147483647 = a % 2147483647 := Int.tmod_eq_emod_of_nonneg h
theorem tmod_down {a : Int} (h : a < 0) : a.tmod 2147483647 = -((-a) % 2147483647) := by
  have h1 : a.tmod 2147483647 = -((-a).tmod 2147483647) := by rw [Int.neg_tmod, Int.neg_neg]
  rw [h1, tmod_up (by omega)]
theorem tmod_neg (a : Int) (h : a.tmod 2147483647 < 0) : a.tmod 2147483647 + 2147483647 = a % 2147483647 := by
  by_cases h0 : 0 ≤ a
  · rw [tmod_up h0] at *; omega
  · rw [tmod_down (by omega)] at *; omega
theorem tmod_pos (a : Int) (h : 0 ≤ a.tmod 2147483647) : a.tmod 2147483647 = a % 2147483647 := by
  by_cases h0 : 0 ≤ a
  · exact tmod_up h0
  · rw [tmod_down (by omega)] at *; omega
theorem tmod_any (a : Int) : (a.tmod 2147483647 + 2147483647) % 2147483647 = a % 2147483647 := by
  by_cases h0 : 0 ≤ a
  · rw [tmod_up h0]; omega
  · rw [tmod_down (by omega)]; omega
end Go.Proofs.YtedjclnojocjkaaGreatDoor.Hsh
