/-
  climb: the closure that goes up to a root, whatever the function that tells the other halves; CeilDiv by two.
  Conditions: at most 10^12 digests; the other function tells v j at its call j, and spares what is not its own.
-/
import Derived.Test.YtggfpjcfjcoaiaaHash
import Derived.Test.YtggfpjcfjcoaiaaTreeMath
namespace Go.Proofs.Ytggfpjcfjcoaiaa.Tre
open Go Go.RowKit Go.Proofs.Ytggfpjcfjcoaiaa.Mem Go.Proofs.Ytggfpjcfjcoaiaa.Hsh
set_option linter.unusedVariables false

/-- Of the blocks that were there, those of D alone may have changed. -/
structure Spared (D : Nat → Prop) (w w' : World) : Prop where
  os : w'.os = w.os
  tape : w'.tape = w.tape
  output : w'.output = w.output
  size : w.heap.size ≤ w'.heap.size
  block : ∀ k, k < w.heap.size → ¬ D k → w'.heap[k]? = w.heap[k]?
theorem Spared.refl (D : Nat → Prop) (w : World) : Spared D w w := ⟨rfl, rfl, rfl, Nat.le_refl _, fun _ _ _ => rfl⟩
theorem Spared.of_below {D : Nat → Prop} {w w' : World} (h : Below w.heap.size w w') : Spared D w w' := ⟨h.os, h.tape, h.output, h.size, fun k hk _ => h.block k hk⟩
theorem Spared.trans {D E : Nat → Prop} {a b c : World} (h : Spared D a b) (k : Spared E b c) (hE : ∀ i, E i → D i ∨ a.heap.size ≤ i) : Spared D a c :=
  ⟨k.os.trans h.os, k.tape.trans h.tape, k.output.trans h.output, Nat.le_trans h.size k.size, fun i hi hp =>
    (k.block i (Nat.lt_of_lt_of_le hi h.size) (fun e => by rcases hE i e with h1 | h1; exact hp h1; omega)).trans (h.block i hi hp)⟩
theorem Spared.below {D : Nat → Prop} {B : Nat} {w w' : World} (h : Spared D w w') (hB : B ≤ w.heap.size) (hD : ∀ i, D i → B ≤ i) : Below B w w' :=
  ⟨h.os, h.tape, h.output, h.size, fun k hk => h.block k (by omega) (fun e => by have := hD k e; omega)⟩

/-- What is asked of the function that tells the root of the other half: function g, its variables lb. st: the steps of the way; v j: what it tells at step j; S j D w: j steps are done, and the blocks of D are its own. -/
structure Beside (P : Program) (g : Nat) (lb : Array Value) (st : List (Nat × Nat)) (v : Nat → Int) (S : Nat → (Nat → Prop) → World → Prop) : Prop where
  enters : ∀ args w, (callFunc g args).run P w = .ok (.enter g args) w
  wf : ∀ j, (Lit.int .i64 (v j)).wf = true
  call : ∀ (j a b : Nat) (x y : Int) (D : Nat → Prop) (w : World), st[j]? = some (a, b) → x = a → y = b → S j D w →
    Calls P g (#[.int .i64 x, .int .i64 y] ++ lb) w fun e w' => e = .returned (.int .i64 (v j)) ∧ ∃ D', S (j + 1) D' w' ∧ Spared D w w' ∧ ∀ i, D' i → D i ∨ w.heap.size ≤ i
  keep : ∀ (j : Nat) (D : Nat → Prop) (w w' : World), S j D w → Below w.heap.size w w' → S j D w'
  lies : ∀ (j : Nat) (D : Nat → Prop) (w : World), S j D w → ∀ i, D i → i < w.heap.size

/-- The closure's variables: the element's place, its digest, the other function, the closure itself. -/
structure Ring (B : Nat) (i d : Int) (g : Nat) (lb : Array Value) (w : World) : Prop where
  b0 : w.heap[B]? = some (.cells #[.int .i64 i] 3 (0, 0))
  b1 : w.heap[B + 1]? = some (.cells #[.int .i64 d] 3 (0, 0))
  b2 : w.heap[B + 2]? = some (.cells #[.func (.func g) #[] lb] 29 (0, 0))
  b3 : w.heap[B + 3]? = some (.cells #[.func (.func 49) #[] #[.pointer (some ⟨B + 1, 0, none⟩), .pointer (some ⟨B, 0, none⟩), .pointer (some ⟨B + 3, 0, none⟩), .pointer (some ⟨B + 2, 0, none⟩)]] 29 (0, 0))
section
variable {B g : Nat} {i d : Int} {lb : Array Value} {w w' : World} {D : Nat → Prop}
theorem Ring.lt (h : Ring B i d g lb w) : B + 3 < w.heap.size := (Array.getElem?_eq_some_iff.1 h.b3).1
theorem Ring.spared (h : Ring B i d g lb w) (hs : Spared D w w') (hD : ∀ j, B ≤ j → j < B + 4 → ¬ D j) : Ring B i d g lb w' := by
  have hl := h.lt
  exact ⟨(hs.block _ (by omega) (hD _ (by omega) (by omega))).trans h.b0, (hs.block _ (by omega) (hD _ (by omega) (by omega))).trans h.b1, (hs.block _ (by omega) (hD _ (by omega) (by omega))).trans h.b2, (hs.block _ (by omega) (hD _ (by omega) (by omega))).trans h.b3⟩
end

set_option maxRecDepth 100000 in
theorem ceil2 (x : Int) (m : Nat) (w : World) (h0 : 0 ≤ x) (h1 : x ≤ 1000000000000) (hm : (m : Int) = (x + 1) / 2) :
    Calls Try.prog 50 #[.int .i64 x, .int .i64 2] w fun e w' => e = .returned (.int .i64 m) ∧ w = w' := by
  have hq : (x + 1).tdiv 2 = (m : Int) := by rw [hm, Int.tdiv_eq_ediv_of_nonneg (by omega)]
  have ha := Range.in_yes x 0 1000000000000 w h0 h1
  have hb := Range.in_yes 2 1 1000000000000 w (by omega) (by omega)
  have e1 : x + 2 - 1 = x + 1 := by omega
  have hm1 : (m : Int) ≤ 1000000000000 := by omega
  clear hm
  go_enter Try.func50, Try.ntmps50
  go_wp2_with (first
    | (go_at_call 55; (with_reducible (show Calls _ _ #[.int .i64 x, _, _] _ _)); refine ha.mono ?_; rintro e w' ⟨rfl, rfl⟩)
    | (go_at_call 55; refine hb.mono ?_; rintro e w' ⟨rfl, rfl⟩))
  go_ret
  exact ⟨rfl, rfl⟩

theorem two_row (a b : Int) (w : World) (ha : (Lit.int .i64 a).wf = true) (hb : (Lit.int .i64 b).wf = true) :
    Row .i64 w.heap.size (w.heap.size + 1) (w.alloc (.cells #[.int .i64 a, .int .i64 b] 3)) (some ⟨w.heap.size, 0, none⟩) 2 [a, b] := by
  refine ⟨rfl, ?_, fun _ => ⟨w.heap.size, 0, rfl, Nat.le_refl _, by omega, ?_⟩⟩
  · intro z hz
    simp only [List.mem_cons, List.not_mem_nil, or_false] at hz
    rcases hz with rfl | rfl
    · exact ha
    · exact hb
  · intro j hj
    rw [World.cell?_alloc_at _ _ _ _ rfl]
    match j, hj with
    | 0, _ => rfl
    | 1, _ => rfl

set_option maxHeartbeats 1000000 in
set_option maxRecDepth 100000 in
/-- The closure, at the span from lo on and below hi. -/
theorem up_any (g : Nat) (lb : Array Value) (st : List (Nat × Nat)) (v : Nat → Int) (S : Nat → (Nat → Prop) → World → Prop) (O : Beside Try.prog g lb st v S) (B I : Nat) (d : Int) (wd : (Lit.int .i64 d).wf = true) (k : Nat) :
    ∀ (lo hi : Nat) (x y : Int) (D : Nat → Prop) (w : World), hi - lo ≤ k → lo < hi → lo ≤ I → x = lo → y = hi → hi ≤ 1000000000000 → I ≤ 1000000000000 → steps lo (hi - lo) (I - lo) <+: st →
      Ring B I d g lb w → (∀ j, B ≤ j → j < B + 4 → ¬ D j) → S 0 D w →
      Calls Try.prog 49 #[.int .i64 x, .int .i64 y, .pointer (some ⟨B + 1, 0, none⟩), .pointer (some ⟨B, 0, none⟩), .pointer (some ⟨B + 3, 0, none⟩), .pointer (some ⟨B + 2, 0, none⟩)] w fun e w' =>
        e = .returned (.int .i64 (climbed (hi - lo) (I - lo) d v)) ∧ ∃ D', S (dep (hi - lo) (I - lo)) D' w' ∧ Spared D w w' ∧ ∀ i, D' i → D i ∨ w.heap.size ≤ i := by
  induction k with
  | zero => intro lo hi x y D w h h0; omega
  | succ k ih =>
    intro lo hi x y D w h h0 hI hx hy hh hII hst hR hD hS
    have c0 : w.cell? ⟨B, 0, none⟩ = some (.int .i64 I) := by simp [World.cell?, hR.b0]
    have c1 : w.cell? ⟨B + 1, 0, none⟩ = some (.int .i64 d) := by simp [World.cell?, hR.b1]
    have c3 : w.cell? ⟨B + 3, 0, none⟩ = some (.func (.func 49) #[] #[.pointer (some ⟨B + 1, 0, none⟩), .pointer (some ⟨B, 0, none⟩), .pointer (some ⟨B + 3, 0, none⟩), .pointer (some ⟨B + 2, 0, none⟩)]) := by simp [World.cell?, hR.b3]
    by_cases h1 : hi - lo ≤ 1
    · have e1 : (y - x == 1) = true := by rw [hx, hy]; simp; omega
      rw [climbed_small h1, dep_small h1]
      have HS := Lib.hid hS
      clear ih hst hS
      go_enter Try.func49, Try.ntmps49
      go_wp2
      go_ret
      exact ⟨rfl, D, HS.out, Spared.refl _ _, fun i hi => .inl hi⟩
    · have e1 : (y - x == 1) = false := by rw [hx, hy]; simp; omega
      obtain ⟨m, hm⟩ : ∃ m, Hid ((hi - lo + 1) / 2 = m) := ⟨_, rfl⟩
      have hC := ceil2 (y - x) m w (by omega) (by omega) (by rw [← hm.out]; omega)
      have hmb : 0 < m ∧ m < hi - lo := by have := hm.out; omega
      obtain ⟨m0, m1⟩ := hmb
      by_cases hr : I < lo + m
      · have hr' : I - lo < (hi - lo + 1) / 2 := by have := hm.out; omega
        rw [climbed_left h1 hr', dep_left h1 hr', hm.out]
        rw [steps_left h1 hr', hm.out, show lo + (hi - lo) = hi by omega] at hst
        have ih1 := ih lo (lo + m) x (x + m) D w (by omega) (by omega) hI hx (by omega) (by omega) hII (by rw [show lo + m - lo = m by omega]; exact (List.prefix_append _ _).trans hst) hR hD hS
        rw [show lo + m - lo = m by omega] at ih1
        have hs1 : st[dep m (I - lo)]? = some (lo + m, hi) := by
          obtain ⟨tl, rfl⟩ := hst
          rw [List.append_assoc, List.getElem?_append_right (by rw [steps_length]; omega), steps_length, Nat.sub_self]; rfl
        have wc := climbed_wf m m (I - lo) d v (Nat.le_refl _) wd
        obtain ⟨z, hz⟩ : ∃ z, Hid (climbed m (I - lo) d v = z) := ⟨_, rfl⟩
        obtain ⟨q, hq⟩ : ∃ q, Hid (dep m (I - lo) = q) := ⟨_, rfl⟩
        rw [hz.out] at ih1 wc ⊢
        rw [hq.out] at ih1 hs1 ⊢
        have wv := O.wf q
        have e2 : decide ((I : Int) < x + m) = true := by simp; omega
        have hC1 := O.call q (lo + m) hi (x + m) y
        have x0 : 0 ≤ x := by omega
        have y1 : y ≤ 1000000000000 := by omega
        have xy : x + m < y := by omega
        have HX := Lib.hid hx
        have HY := Lib.hid hy
        clear ih hst hS h1 hr hr' hx hy h hh h0 hI hII m0 m1
        go_enter Try.func49, Try.ntmps49
        go_wp2_with fail
        go_at_call 50
        refine hC.mono ?_
        rintro e w0 ⟨rfl, rfl⟩
        go_wp2_with fail
        refine ih1.mono ?_
        rintro e w1 ⟨rfl, D1, hS1, hp1, hD1⟩
        have hR1 := hR.spared hp1 hD
        have hDn : ∀ j, B ≤ j → j < B + 4 → ¬ D1 j := fun j a1 a2 a3 => by have := hR.lt; rcases hD1 j a3 with a4 | a4; exact hD j a1 a2 a4; omega
        have c2 : w1.cell? ⟨B + 2, 0, none⟩ = some (.func (.func g) #[] lb) := by simp [World.cell?, hR1.b2]
        have he := O.enters
        go_wp2_with fail
        refine (hC1 D1 w1 hs1 (by have := HX.out; omega) HY.out hS1).mono ?_
        rintro e w2 ⟨rfl, D2, hS2, hp2, hD2⟩
        have hb3 : Below w2.heap.size w2 (w2.alloc (.cells #[.int .i64 z, .int .i64 (v q)] 3)) := (Below.refl _ _).alloc (Nat.le_refl _) _
        have hh := hash_impl _ _ _ _ 2 2 _ (two_row z (v q) w2 wc wv) (by omega)
        obtain ⟨u, hu⟩ : ∃ u, Hid (v q = u) := ⟨_, rfl⟩
        rw [hu.out] at hh hb3 ⊢
        clear wv he c0 c1 c3 c2 hC
        go_wp2_with fail
        go_at_call 41
        refine hh.mono ?_
        rintro e w3 ⟨rfl, rfl⟩
        go_wp2
        go_ret
        have hvu := hu.out
        subst hvu
        refine ⟨rfl, D2, O.keep _ _ _ _ hS2 hb3, (hp1.trans hp2 hD1).trans (Spared.of_below hb3) (E := D2) (fun i hi => ?_), fun i hi => ?_⟩
        · rcases hD2 i hi with h1 | h1
          · exact hD1 i h1
          · exact .inr (Nat.le_trans hp1.size h1)
        · rcases hD2 i hi with h1 | h1
          · exact hD1 i h1
          · exact .inr (Nat.le_trans hp1.size h1)
      · have hr' : ¬ I - lo < (hi - lo + 1) / 2 := by have := hm.out; omega
        rw [climbed_right h1 hr', dep_right h1 hr', hm.out]
        rw [steps_right h1 hr', hm.out] at hst
        have ih1 := ih (lo + m) hi (x + m) y D w (by omega) (by omega) (by omega) (by omega) hy hh hII (by rw [show hi - (lo + m) = hi - lo - m by omega, show I - (lo + m) = I - lo - m by omega]; exact (List.prefix_append _ _).trans hst) hR hD hS
        rw [show hi - (lo + m) = hi - lo - m by omega, show I - (lo + m) = I - lo - m by omega] at ih1
        have hs1 : st[dep (hi - lo - m) (I - lo - m)]? = some (lo, lo + m) := by
          obtain ⟨tl, rfl⟩ := hst
          rw [List.append_assoc, List.getElem?_append_right (by rw [steps_length]; omega), steps_length, Nat.sub_self]; rfl
        have wc := climbed_wf (hi - lo - m) (hi - lo - m) (I - lo - m) d v (Nat.le_refl _) wd
        obtain ⟨z, hz⟩ : ∃ z, Hid (climbed (hi - lo - m) (I - lo - m) d v = z) := ⟨_, rfl⟩
        obtain ⟨q, hq⟩ : ∃ q, Hid (dep (hi - lo - m) (I - lo - m) = q) := ⟨_, rfl⟩
        rw [hz.out] at ih1 wc ⊢
        rw [hq.out] at ih1 hs1 ⊢
        have wv := O.wf q
        have e2 : decide ((I : Int) < x + m) = false := by simp; omega
        have hC1 := O.call q lo (lo + m) x (x + m)
        have x0 : 0 ≤ x := by omega
        have y1 : y ≤ 1000000000000 := by omega
        have xy : x + m < y := by omega
        have HX := Lib.hid hx
        have HY := Lib.hid hy
        clear ih hst hS h1 hr hr' hx hy h hh h0 hI hII m0 m1
        go_enter Try.func49, Try.ntmps49
        go_wp2_with fail
        go_at_call 50
        refine hC.mono ?_
        rintro e w0 ⟨rfl, rfl⟩
        go_wp2_with fail
        refine ih1.mono ?_
        rintro e w1 ⟨rfl, D1, hS1, hp1, hD1⟩
        have hR1 := hR.spared hp1 hD
        have c2 : w1.cell? ⟨B + 2, 0, none⟩ = some (.func (.func g) #[] lb) := by simp [World.cell?, hR1.b2]
        have he := O.enters
        go_wp2_with fail
        refine (hC1 D1 w1 hs1 HX.out (by have := HX.out; omega) hS1).mono ?_
        rintro e w2 ⟨rfl, D2, hS2, hp2, hD2⟩
        have hb3 : Below w2.heap.size w2 (w2.alloc (.cells #[.int .i64 (v q), .int .i64 z] 3)) := (Below.refl _ _).alloc (Nat.le_refl _) _
        have hh := hash_impl _ _ _ _ 2 2 _ (two_row (v q) z w2 wv wc) (by omega)
        obtain ⟨u, hu⟩ : ∃ u, Hid (v q = u) := ⟨_, rfl⟩
        rw [hu.out] at hh hb3 ⊢
        clear wv he c0 c1 c3 c2 hC
        go_wp2_with fail
        go_at_call 41
        refine hh.mono ?_
        rintro e w3 ⟨rfl, rfl⟩
        go_wp2
        go_ret
        have hvu := hu.out
        subst hvu
        refine ⟨rfl, D2, O.keep _ _ _ _ hS2 hb3, (hp1.trans hp2 hD1).trans (Spared.of_below hb3) (E := D2) (fun i hi => ?_), fun i hi => ?_⟩
        · rcases hD2 i hi with h1 | h1
          · exact hD1 i h1
          · exact .inr (Nat.le_trans hp1.size h1)
        · rcases hD2 i hi with h1 | h1
          · exact hD1 i h1
          · exact .inr (Nat.le_trans hp1.size h1)

/-- The variables of a climb, as it lays them. -/
def climbLaid (i d : Int) (g : Nat) (lb : Array Value) (w : World) : World :=
  (((w.alloc (.cells #[.int .i64 i] 3)).alloc (.cells #[.int .i64 d] 3)).alloc (.cells #[.func (.func g) #[] lb] 29)).alloc (.cells #[.func (.func 49) #[] #[.pointer (some ⟨w.heap.size + 1, 0, none⟩), .pointer (some ⟨w.heap.size, 0, none⟩), .pointer (some ⟨w.heap.size + 3, 0, none⟩), .pointer (some ⟨w.heap.size + 2, 0, none⟩)]] 29)

set_option maxHeartbeats 1000000 in
set_option maxRecDepth 100000 in
theorem climb_any (g : Nat) (lb : Array Value) (n I : Nat) (v : Nat → Int) (S : Nat → (Nat → Prop) → World → Prop) (O : Beside Try.prog g lb (steps 0 n I) v S) (d x : Int) (wd : (Lit.int .i64 d).wf = true) (D : Nat → Prop) (w : World)
    (hn : 0 < n) (hn1 : n ≤ 1000000000000) (hI : I ≤ 1000000000000) (hx : x = I) (hS : S 0 D w) :
    Calls Try.prog 30 #[.int .i64 n, .int .i64 x, .int .i64 d, .func (.func g) #[] lb] w fun e w' =>
      e = .returned (.int .i64 (climbed n I d v)) ∧ ∃ D', S (dep n I) D' w' ∧ Spared D w w' ∧ ∀ i, D' i → D i ∨ w.heap.size ≤ i := by
  have hmf : ∀ (fn : Fn) (first cap : Array Value) (w : World), (Instr.makeFunc fn first cap).run Try.prog w = .ok (.func fn first cap) w := fun _ _ _ _ => rfl
  subst hx
  have hst : ∀ (fn : Fn) (first cap : Array Value) (a : Addr) (m : Mode) (W : World), (store a (.func fn first cap) m).run Try.prog W = stored Try.prog W a (.func fn first cap) m := fun _ _ _ _ _ _ => run_store _ _ _ _ _ rfl
  have hlie := O.lies _ _ _ hS
  have hb : Below w.heap.size w (climbLaid I d g lb w) := by
    unfold climbLaid
    exact (((((Below.refl _ _).alloc (Nat.le_refl _) _).alloc (by simp) _).alloc (by simp; omega) _).alloc (by simp; omega) _)
  have hR : Ring w.heap.size I d g lb (climbLaid I d g lb w) := by
    unfold climbLaid
    refine ⟨?_, ?_, ?_, ?_⟩
    · rw [Below.heap_alloc _ _ _ (by simp; omega), Below.heap_alloc _ _ _ (by simp; omega), Below.heap_alloc _ _ _ (by simp)]
      exact heap_alloc_new w _
    · rw [Below.heap_alloc _ _ _ (by simp), Below.heap_alloc _ _ _ (by simp)]
      have := heap_alloc_new (w.alloc (.cells #[.int .i64 I] 3)) (.cells #[.int .i64 d] 3)
      simpa using this
    · rw [Below.heap_alloc _ _ _ (by simp)]
      have := heap_alloc_new ((w.alloc (.cells #[.int .i64 I] 3)).alloc (.cells #[.int .i64 d] 3)) (.cells #[.func (.func g) #[] lb] 29)
      simpa using this
    · have := heap_alloc_new (((w.alloc (.cells #[.int .i64 I] 3)).alloc (.cells #[.int .i64 d] 3)).alloc (.cells #[.func (.func g) #[] lb] 29)) (.cells #[.func (.func 49) #[] #[.pointer (some ⟨w.heap.size + 1, 0, none⟩), .pointer (some ⟨w.heap.size, 0, none⟩), .pointer (some ⟨w.heap.size + 3, 0, none⟩), .pointer (some ⟨w.heap.size + 2, 0, none⟩)]] 29)
      simpa using this
  have hup := up_any g lb (steps 0 n I) v S O w.heap.size I d wd n 0 n 0 n D (climbLaid I d g lb w) (by omega) hn (Nat.zero_le _) rfl rfl hn1 hI (List.prefix_refl _) hR (fun j h1 h2 h3 => by have := hlie j h3; omega) (O.keep _ _ _ _ hS hb)
  have hs := hb.size
  rw [Nat.sub_zero, Nat.sub_zero] at hup
  clear hR
  go_enter Try.func30, Try.ntmps30
  go_wp2_with fail
  refine hup.mono ?_
  rintro e w5 ⟨rfl, D1, hS1, hp1, hD1⟩
  go_wp2
  go_ret
  refine ⟨rfl, D1, hS1, (Spared.of_below hb).trans hp1 (fun i hi => .inl hi), fun i hi => ?_⟩
  rcases hD1 i hi with h1 | h1
  · exact .inl h1
  · exact .inr (Nat.le_trans hs h1)
end Go.Proofs.Ytggfpjcfjcoaiaa.Tre
