/-
  A resource's copy by the model, and the draws of one resource and of two.
  Conditions: the bytes are in memory.
-/
import Derived.Test.YtofhopiikbbakaaDrawRes
import Derived.Test.YtofhopiikbbakaaDrawOnce
import Derived.Deep.RegionHeld3
namespace Go.Proofs.Ytofhopiikbbakaa.Draw
open Go Go.RowKit Go.Proofs.Ytofhopiikbbakaa.Mem Go.Proofs.Ytofhopiikbbakaa.Adr Go.Proofs.Ytofhopiikbbakaa.Res

theorem step_append_rows {P : Program} {ops : Array Oper} {o : Oper} {a : Act} {w : World} {K : Act → World → Prop} {Q : Exit → Act → World → Prop} {E : Prop} {k : IntKind} (hgd : o.guard = none) (s x : Operand) (t : TypeId)
    (ho : o.op = .call { callee := .builtin .append, args := #[s, x], argTypes := #[t, t] })
    (base e : Nat) (i : TypeInfo) (z : Value) (bytes : Nat) (ht : P.underlying t = some (.slice e)) (hi : P.info? e = some i) (hz : i.zero = some z)
    (hsize : i.size = 1) (hby : i.bytes = bytes) (hzs : z.cells.size = 1)
    (v : Value) (n : Nat) (xs : List Int) (hs : a.eval s = v) (hown : OwnI k e base w v n xs)
    (lo hi' : Nat) (A : Option Addr) (m c : Nat) (zs : List Int) (hx : a.eval x = .slice A m c) (hr : Row k lo hi' w A m zs)
    (h63 : n + m ≤ maxLen) (hbytes : (n + m) * bytes ≤ 140737488355328) (hbase : base ≤ w.heap.size)
    (h : ∀ a' c' w', OwnI k e base w' (.slice a' (n + m) c') (n + m) (xs ++ zs) → Below base w w' → K (a.put o.dst (.slice a' (n + m) c')) w') :
    if Region.wanted o (yielded ops a.tmps) = true then Oper.wp P o a w K Q else E := by
  have hw : Region.wanted o (yielded ops a.tmps) = true := by simp [Region.wanted, hgd]
  rw [if_pos hw]
  have hl := hr.len
  have hsh : ∀ v' w', OwnI k e base w' v' (n + m) (xs ++ zs) → ∃ a' c', v' = .slice a' (n + m) c' := by
    intro v' w' h2
    rcases h2.2 with ⟨rfl, h0⟩ | ⟨g, cap, cur, rfl, _⟩
    · exact ⟨none, 0, by rw [h0]⟩
    · exact ⟨_, _, rfl⟩
  rcases A with _ | ad
  · have hm : m = 0 := by
      rcases Nat.eq_zero_or_pos m with h0 | h0
      · exact h0
      · obtain ⟨b, off, h, _⟩ := hr.here h0; cases h
    subst hm
    obtain rfl := List.eq_nil_of_length_eq_zero hl
    have hrun := run_append_none (P := P) t o.type i ht hi c hown
    have h2 : OwnI k e base w v (n + 0) (xs ++ []) := by simpa using hown
    obtain ⟨a', c', hv⟩ := hsh v w h2
    have hK := h a' c' w (by rw [← hv]; exact h2) (Below.refl _ _)
    rw [← hv] at hK
    unfold Oper.wp
    simp [execOp, ho, resolve, invoke, builtin, hs, hx, hrun, Result.andThen]
    exact hK
  · refine wp_append_own w s x t ho base e i z 1 bytes ht hi hz hsize hby hzs (by omega) v n _ hs hown ad m c (zs.map (Value.int k)) hx (by simpa using hl) ?_ (ints_oneCell k zs) h63 hbytes hbase ?_
    · intro j u hu
      have hj : j < m := by
        have := (List.getElem?_eq_some_iff.1 hu).1
        simp at this; omega
      obtain ⟨b, off, hab, _, _, hc⟩ := hr.cell hj
      injection hab with hab
      subst hab
      rw [getD_map_int _ _ _ (by omega)] at hu
      injection hu with hu
      subst hu
      rw [add_pl]; exact hc
    · intro v' w' h2 h3 _
      have h2' : OwnI k e base w' v' (n + m) (xs ++ zs) := by unfold OwnI; rw [List.map_append]; exact h2
      obtain ⟨a', c', rfl⟩ := hsh v' w' h2'
      exact h a' c' w' h2' (OwnI.grown hown h3 hbase)

set_option maxHeartbeats 1000000 in
set_option maxRecDepth 100000 in
theorem copy5 (lo hi : Nat) (k h q r : Int) (w : World) (a : Option Addr) (n c : Nat) (zs : List Int) (hr : Row .i64 lo hi w a n zs) (hn : n ≤ 1048576) :
    Calls Try.prog 36 #[(Value.agg #[Value.int IntKind.i64 (k), Value.slice (a) (n) (c), Value.int IntKind.i64 (h), Value.int IntKind.i64 (q), Value.int IntKind.i64 (r)])] w (Copied w.heap.size k h q r n zs w) := by
  obtain ⟨i0, hi0, hz0, hz1, hz2⟩ := info_parts Nts.info
  have hB0 : Below w.heap.size w ((w.alloc (.cells #[.int .i64 k, .slice a n c, .int .i64 h, .int .i64 q, .int .i64 r] 28)).alloc (.cells #[.int .i64 0, .slice none 0 0, .int .i64 0, .int .i64 0, .int .i64 0] 28)) := ((Below.refl _ _).alloc (Nat.le_refl _) _).alloc (le_alloc (Nat.le_refl _)) _
  have hBE : Below w.heap.size w (((w.alloc (.cells #[.int .i64 k, .slice a n c, .int .i64 h, .int .i64 q, .int .i64 r] 28)).alloc (.cells #[.int .i64 0, .slice none 0 0, .int .i64 0, .int .i64 0, .int .i64 0] 28)).alloc (.cells #[] 3)).drew := (hB0.alloc hB0.size _).drew
  have hS0 : ((w.alloc (.cells #[.int .i64 k, .slice a n c, .int .i64 h, .int .i64 q, .int .i64 r] 28)).alloc (.cells #[.int .i64 0, .slice none 0 0, .int .i64 0, .int .i64 0, .int .i64 0] 28)).heap.size = w.heap.size + 2 := by simp only [size_alloc]
  have qA0 : Quint 28 w.heap.size (.int .i64 k) (.slice a n c) (.int .i64 h) (.int .i64 q) (.int .i64 r) ((w.alloc (.cells #[.int .i64 k, .slice a n c, .int .i64 h, .int .i64 q, .int .i64 r] 28)).alloc (.cells #[.int .i64 0, .slice none 0 0, .int .i64 0, .int .i64 0, .int .i64 0] 28)) := (Quint.new _ _ _ _ _ _ w).alloc _
  have qR0 : Quint 28 (w.heap.size + 1) (.int .i64 0) (.slice none 0 0) (.int .i64 0) (.int .i64 0) (.int .i64 0) ((w.alloc (.cells #[.int .i64 k, .slice a n c, .int .i64 h, .int .i64 q, .int .i64 r] 28)).alloc (.cells #[.int .i64 0, .slice none 0 0, .int .i64 0, .int .i64 0, .int .i64 0] 28)) := by have := Quint.new 28 (.int .i64 0) (.slice none 0 0) (.int .i64 0) (.int .i64 0) (.int .i64 0) (w.alloc (.cells #[.int .i64 k, .slice a n c, .int .i64 h, .int .i64 q, .int .i64 r] 28)); rw [size_alloc] at this; exact this
  have qAE := (qA0.alloc (.cells #[] 3)).drew
  have qRE := (qR0.alloc (.cells #[] 3)).drew
  have hvE : OwnI .i64 3 (w.heap.size + 2) (((w.alloc (.cells #[.int .i64 k, .slice a n c, .int .i64 h, .int .i64 q, .int .i64 r] 28)).alloc (.cells #[.int .i64 0, .slice none 0 0, .int .i64 0, .int .i64 0, .int .i64 0] 28)).alloc (.cells #[] 3)).drew (.slice (some ⟨w.heap.size + 2, 0, none⟩) 0 0) 0 [] := by
    have := OwnI.made .i64 3 (base := w.heap.size + 2) ((w.alloc (.cells #[.int .i64 k, .slice a n c, .int .i64 h, .int .i64 q, .int .i64 r] 28)).alloc (.cells #[.int .i64 0, .slice none 0 0, .int .i64 0, .int .i64 0, .int .i64 0] 28)) (by omega)
    rw [hS0] at this
    exact this
  have hrE := hr.below hBE
  have hSE : (((w.alloc (.cells #[.int .i64 k, .slice a n c, .int .i64 h, .int .i64 q, .int .i64 r] 28)).alloc (.cells #[.int .i64 0, .slice none 0 0, .int .i64 0, .int .i64 0, .int .i64 0] 28)).alloc (.cells #[] 3)).drew.heap.size = w.heap.size + 3 := by rw [size_drew, size_alloc, hS0]
  obtain ⟨a0, a1, a2, a3, a4⟩ := qA0.cells
  obtain ⟨r0, r1, r2, r3, r4⟩ := qR0.cells
  obtain ⟨f0, f1, f2, f3, f4⟩ := qR0.frozen
  have kd := qA0.drew.cells
  have kE := qAE.cells
  have kE2 := (qA0.drew.alloc (.cells #[] 3)).cells
  obtain ⟨s0, s1, s2, s3, s4⟩ := qRE.cells
  obtain ⟨t0, t1, t2, t3, t4⟩ := qRE.frozen
  go_enter Try.func36, Try.ntmps36
  go_wp2_with fail
  go_region_held3 (fun w' => w'.cell? ⟨w.heap.size, 0, none⟩ = some (.int .i64 k) ∧ w'.cell? ⟨w.heap.size, 1, none⟩ = some (.slice a n c) ∧ w'.cell? ⟨w.heap.size, 2, none⟩ = some (.int .i64 h) ∧ w'.cell? ⟨w.heap.size, 3, none⟩ = some (.int .i64 q) ∧ w'.cell? ⟨w.heap.size, 4, none⟩ = some (.int .i64 r))
    (first | (with_reducible exact s9) | (with_reducible exact kE) | (with_reducible exact kE2) | (with_reducible exact kd) | go_keep)
    (first
    | (refine step_append_rows rfl _ _ 24 rfl (w.heap.size + 2) 3 i0 _ 8 Try.underlying24 hi0 hz0 hz1 hz2 rfl _ 0 [] rfl hvE lo hi a n c zs rfl hrE ?c3 ?c4 ?c5 ?_; (case c3 => unfold maxLen; omega); (case c4 => omega); (case c5 => omega); intro a' c' w5 hv5 hb5; have qA5 := qAE.under hb5 (by omega); have qR5 := qRE.under hb5 (by omega); have s9 := qA5.cells; obtain ⟨v0, v1, v2, v3, v4⟩ := qR5.cells; obtain ⟨x0, x1, x2, x3, x4⟩ := qR5.frozen; have hB5 := hBE.trans (hb5.mono (by omega))))
  all_goals
    have hvF := own5 (R := w.heap.size + 1) hv5 (by omega) (.int .i64 k) (.slice a' (0 + n) c') (.int .i64 h) (.int .i64 q) (.int .i64 r)
    obtain ⟨g0, g1, g2, g3, g4⟩ := (((((qR5.set0 (.int .i64 k)).set1 (.slice a' (0 + n) c')).set2 (.int .i64 h)).set3 (.int .i64 q)).set4 (.int .i64 r)).cells
    have hBF : Below w.heap.size w (((((w5.setCell ⟨w.heap.size + 1, 0, none⟩ (.int .i64 k)).setCell ⟨w.heap.size + 1, 1, none⟩ (.slice a' (0 + n) c')).setCell ⟨w.heap.size + 1, 2, none⟩ (.int .i64 h)).setCell ⟨w.heap.size + 1, 3, none⟩ (.int .i64 q)).setCell ⟨w.heap.size + 1, 4, none⟩ (.int .i64 r)) := by
      iterate 5 (refine Below.setCell ?_ (Nat.le_succ _) _)
      exact hB5
    simp only [Nat.zero_add, List.nil_append] at hvF g0 g1 g2 g3 g4 hBF
    obtain ⟨a2', c2', hv', h1, h2, h3⟩ := (ownI_more hvF (Nat.le_add_right w.heap.size 2)).own hr.wf
    injection hv' with hv1 _ hv2
    subst hv1 hv2
    go_wp2
    refine bodyPost_ret (v := (Value.agg #[Value.int IntKind.i64 (k), Value.slice (a') (n) (c'), Value.int IntKind.i64 (h), Value.int IntKind.i64 (q), Value.int IntKind.i64 (r)])) (by simp [results, Try.results36, go_sem, g0, g1, g2, g3, g4]) rfl ?_
    exact ⟨a', c', rfl, h3, h1, h2, hBF⟩

theorem wf_i (z : Int) (h : I64 z) : (Lit.int .i64 z).wf = true := WalkArith.wf_i64 (by unfold I64 at h; omega)
theorem own_row {base n : Nat} {w : World} {a : Option Addr} {c : Nat} {zs : List Int} (h : OwnI .i64 3 base w (.slice a n c) n zs) (hg : Good zs) : Row .i64 base w.heap.size w a n zs := by
  obtain ⟨a', c', hv, _, _, ho⟩ := h.own hg.wf
  injection hv with h1 _ _
  subst h1
  exact ho.row

/-- A resource that the call has drawn. -/
def Drawn5 (w : World) (e : Ending) (w' : World) : Prop :=
  ∃ (k h q r : Int) (a : Option Addr) (n c : Nat) (zs : List Int), I64 k ∧ I64 h ∧ I64 q ∧ I64 r ∧ e = .returned (Value.agg #[Value.int IntKind.i64 (k), Value.slice (a) (n) (c), Value.int IntKind.i64 (h), Value.int IntKind.i64 (q), Value.int IntKind.i64 (r)]) ∧ Row .i64 0 w'.heap.size w' a n zs ∧ n ≤ 7 ∧ Good zs ∧ Below w.heap.size w w'

set_option maxHeartbeats 1000000 in
set_option maxRecDepth 100000 in
theorem draw_is5 (B : Nat) (a : Option Addr) (n c : Nat) (w : World) (hb : Bytes B w a n) (hB : B ≤ w.heap.size) :
    Calls Try.prog 10 #[.slice a n c] w (Drawn5 w) := by
  have qR := Quint.new 28 (.int .i64 0) (.slice none 0 0) (.int .i64 0) (.int .i64 0) (.int .i64 0) w
  have hb0 : Below w.heap.size w (w.alloc (.cells #[.int .i64 0, .slice none 0 0, .int .i64 0, .int .i64 0, .int .i64 0] 28)) := (Below.refl _ _).alloc (Nat.le_refl _) _
  go_enter Try.func10, Try.ntmps10
  go_wp2_with fail
  go_at_call 30
  refine (new_any B a n c _ (hb.below hb0) (by simp; omega)).mono ?_
  rintro e w1 ⟨rfl, hc1, hb1⟩
  have qR1 := qR.below hb1
  have hB1 := hb0.trans (hb1.mono hb0.size)
  have hs1 := hc1.lt
  rw [size_alloc] at hc1 hs1
  clear hb hb0 hb1 qR
  go_wp2_with fail
  go_at_call 31
  refine (any5 B _ _ hc1).mono ?_
  rintro e w2 ⟨k, h, q, r, a', n', c', zs, hk, hh, hq, hr, rfl, hv, hn, hg, hc2, ho2⟩
  have qR2 := quint_only qR1 ho2 (by omega)
  have hB2 := hB1.trans (ho2.below (Nat.le_succ _) hB1.size)
  obtain ⟨a0, a1, a2, a3, a4⟩ := qR2.cells
  obtain ⟨f0, f1, f2, f3, f4⟩ := qR2.frozen
  clear qR1 hc1 hc2 ho2
  go_wp2_with fail
  have hvF := own5 (R := w.heap.size) hv (by omega) (.int .i64 k) (.slice a' n' c') (.int .i64 h) (.int .i64 q) (.int .i64 r)
  obtain ⟨g0, g1, g2, g3, g4⟩ := (((((qR2.set0 (.int .i64 k)).set1 (.slice a' n' c')).set2 (.int .i64 h)).set3 (.int .i64 q)).set4 (.int .i64 r)).cells
  refine bodyPost_ret (v := (Value.agg #[Value.int IntKind.i64 (k), Value.slice (a') (n') (c'), Value.int IntKind.i64 (h), Value.int IntKind.i64 (q), Value.int IntKind.i64 (r)])) (by simp [results, Try.results10, go_sem, g0, g1, g2, g3, g4]) rfl ?_
  refine ⟨k, h, q, r, a', n', c', zs, hk, hh, hq, hr, rfl, (own_row hvF hg).more (Nat.zero_le _) (Nat.le_refl _), hn, hg, ?_⟩
  iterate 5 (refine Below.setCell ?_ (by dsimp only; omega) _)
  exact hB2

/-- Two resources that the call has drawn. -/
def Drawn55 (w : World) (e : Ending) (w' : World) : Prop :=
  ∃ (k h q r : Int) (a : Option Addr) (n c : Nat) (xs : List Int) (k' h' q' r' : Int) (a' : Option Addr) (n' c' : Nat) (ys : List Int), I64 k ∧ I64 h ∧ I64 q ∧ I64 r ∧ I64 k' ∧ I64 h' ∧ I64 q' ∧ I64 r' ∧
    e = .returned (.tuple #[(Value.agg #[Value.int IntKind.i64 (k), Value.slice (a) (n) (c), Value.int IntKind.i64 (h), Value.int IntKind.i64 (q), Value.int IntKind.i64 (r)]), (Value.agg #[Value.int IntKind.i64 (k'), Value.slice (a') (n') (c'), Value.int IntKind.i64 (h'), Value.int IntKind.i64 (q'), Value.int IntKind.i64 (r')])]) ∧ Row .i64 0 w'.heap.size w' a n xs ∧ Row .i64 0 w'.heap.size w' a' n' ys ∧ n ≤ 7 ∧ n' ≤ 7 ∧ Below w.heap.size w w'

set_option maxHeartbeats 2000000 in
set_option maxRecDepth 100000 in
theorem draw_eq5 (B : Nat) (a : Option Addr) (n c : Nat) (w : World) (hb : Bytes B w a n) (hB : B ≤ w.heap.size) :
    Calls Try.prog 15 #[.slice a n c] w (Drawn55 w) := by
  have q1 := (Quint.new 28 (.int .i64 0) (.slice none 0 0) (.int .i64 0) (.int .i64 0) (.int .i64 0) w).alloc (.cells #[.int .i64 0, .slice none 0 0, .int .i64 0, .int .i64 0, .int .i64 0] 28)
  have q2 := Quint.new 28 (.int .i64 0) (.slice none 0 0) (.int .i64 0) (.int .i64 0) (.int .i64 0) (w.alloc (.cells #[.int .i64 0, .slice none 0 0, .int .i64 0, .int .i64 0, .int .i64 0] 28))
  rw [size_alloc] at q2
  have hb0 : Below w.heap.size w ((w.alloc (.cells #[.int .i64 0, .slice none 0 0, .int .i64 0, .int .i64 0, .int .i64 0] 28)).alloc (.cells #[.int .i64 0, .slice none 0 0, .int .i64 0, .int .i64 0, .int .i64 0] 28)) := ((Below.refl _ _).alloc (Nat.le_refl _) _).alloc (le_alloc (Nat.le_refl _)) _
  go_enter Try.func15, Try.ntmps15
  go_wp2_with fail
  go_at_call 30
  refine (new_any B a n c _ (hb.below hb0) (by simp; omega)).mono ?_
  rintro e w1 ⟨rfl, hc1, hb1⟩
  have q1 := q1.below hb1
  have q2 := q2.below hb1
  have hB1 := hb0.trans (hb1.mono hb0.size)
  have hs1 := hc1.lt
  rw [size_alloc, size_alloc] at hc1 hs1
  clear hb hb0 hb1
  go_wp2_with fail
  go_at_call 31
  refine (any5 B _ _ hc1).mono ?_
  rintro e w2 ⟨k, h, q, r, a1, n1, c1, xs, hk, hh, hq, hr, rfl, hv, hn, hg, hc2, ho2⟩
  have hs2 := ho2.size
  have q1 := (quint_only q1 ho2 (by omega)).alloc (.cells #[.int .i64 k, .slice a1 n1 c1, .int .i64 h, .int .i64 q, .int .i64 r] 28)
  have q2 := (quint_only q2 ho2 (by omega)).alloc (.cells #[.int .i64 k, .slice a1 n1 c1, .int .i64 h, .int .i64 q, .int .i64 r] 28)
  have qV := Quint.new 28 (.int .i64 k) (.slice a1 n1 c1) (.int .i64 h) (.int .i64 q) (.int .i64 r) w2
  have hv2 := hv.alloc (.cells #[.int .i64 k, .slice a1 n1 c1, .int .i64 h, .int .i64 q, .int .i64 r] 28)
  have hB2 := hB1.trans (ho2.below (B := w.heap.size) (by omega) hB1.size)
  have hB2 := hB2.alloc hB2.size (.cells #[.int .i64 k, .slice a1 n1 c1, .int .i64 h, .int .i64 q, .int .i64 r] 28)
  have hc2' : Cur 72 B (w.heap.size + 1 + 1) (w2.alloc (.cells #[.int .i64 k, .slice a1 n1 c1, .int .i64 h, .int .i64 q, .int .i64 r] 28)) := hc2.below ((Below.refl _ _).alloc (Nat.le_refl _) _)
  clear hc1 hc2 ho2 hB1 hv
  go_wp2_with fail
  go_at_call 35
  refine (once_any B _ _ _ hc2' (by omega) (by omega)).mono ?_
  rintro e w3 ⟨⟨b, rfl⟩, hc3, ho3⟩
  have hs3 := ho3.size
  rw [size_alloc] at hs3
  have q1 := quint_only q1 ho3 (by omega)
  have q2 := quint_only q2 ho3 (by omega)
  have qV := quint_only qV ho3 (by omega)
  have hv3 := Only.own hv2 ho3 (by omega)
  have hB3 := hB2.trans (ho3.below (B := w.heap.size) (by omega) hB2.size)
  have hcd : Cur 72 B (w.heap.size + 1 + 1) w3.drew := hc3
  have hsd : w3.drew.heap.size = w3.heap.size := rfl
  have hBd := hB3.drew
  have hvd : OwnI .i64 3 w1.heap.size w3.drew (.slice a1 n1 c1) n1 xs := hv3
  have hrd := own_row hvd hg
  have q1d := q1.drew
  have q2d := q2.drew
  have qVd := qV.drew
  have kd := qVd.cells
  obtain ⟨y0, y1, y2, y3, y4⟩ := qV.cells
  clear hc2' ho3 hB2 hv2 hB3 hv3 hc3
  cases b
  · go_wp2_with fail
    go_region_held3 (fun w' => w'.cell? ⟨w2.heap.size, 0, none⟩ = some (.int .i64 k) ∧ w'.cell? ⟨w2.heap.size, 1, none⟩ = some (.slice a1 n1 c1) ∧ w'.cell? ⟨w2.heap.size, 2, none⟩ = some (.int .i64 h) ∧ w'.cell? ⟨w2.heap.size, 3, none⟩ = some (.int .i64 q) ∧ w'.cell? ⟨w2.heap.size, 4, none⟩ = some (.int .i64 r))
      (first | (with_reducible exact s9) | (with_reducible exact kd) | (with_reducible exact s10) | (with_reducible exact s11) | go_keep)
      (first
      | (go_at_call 31; refine (any5 B _ _ hcd).mono ?_; rintro e w5 ⟨k', h', q', r', a2, n2, c2, ys, hk', hh', hq', hr', rfl, hv', hn', hg', hc5, ho5⟩; have q15 := quint_only q1d ho5 (by omega); have q25 := quint_only q2d ho5 (by omega); have qV5 := quint_only qVd ho5 (by omega); have s9 := qV5.cells; have s10 := (((((qV5.other (a := ⟨w.heap.size, 0, none⟩) (.int .i64 k) (by simp; omega)).other (a := ⟨w.heap.size, 1, none⟩) (.slice a1 n1 c1) (by simp; omega)).other (a := ⟨w.heap.size, 2, none⟩) (.int .i64 h) (by simp; omega)).other (a := ⟨w.heap.size, 3, none⟩) (.int .i64 q) (by simp; omega)).other (a := ⟨w.heap.size, 4, none⟩) (.int .i64 r) (by simp; omega)).cells; have s11 := ((((((((((qV5.other (a := ⟨w.heap.size, 0, none⟩) (.int .i64 k) (by simp; omega)).other (a := ⟨w.heap.size, 1, none⟩) (.slice a1 n1 c1) (by simp; omega)).other (a := ⟨w.heap.size, 2, none⟩) (.int .i64 h) (by simp; omega)).other (a := ⟨w.heap.size, 3, none⟩) (.int .i64 q) (by simp; omega)).other (a := ⟨w.heap.size, 4, none⟩) (.int .i64 r) (by simp; omega)).other (a := ⟨w.heap.size + 1, 0, none⟩) (.int .i64 k') (by simp; omega)).other (a := ⟨w.heap.size + 1, 1, none⟩) (.slice a2 n2 c2) (by simp; omega)).other (a := ⟨w.heap.size + 1, 2, none⟩) (.int .i64 h') (by simp; omega)).other (a := ⟨w.heap.size + 1, 3, none⟩) (.int .i64 q') (by simp; omega)).other (a := ⟨w.heap.size + 1, 4, none⟩) (.int .i64 r') (by simp; omega)).cells; have hra := own_row (Only.own hvd ho5 (by omega)) hg; have hrb := own_row hv' hg'; have hB5 := hBd.trans (ho5.below (B := w.heap.size) (by omega) hBd.size); have hs5 := ho5.size; obtain ⟨v0, v1, v2, v3, v4⟩ := q15.cells; obtain ⟨x0, x1, x2, x3, x4⟩ := q15.frozen; obtain ⟨u0, u1, u2, u3, u4⟩ := q25.cells; obtain ⟨z0, z1, z2, z3, z4⟩ := q25.frozen))
    all_goals
      have hZ : Zone 0 (w.heap.size + 2) w5 ((((((((((w5.setCell ⟨w.heap.size, 0, none⟩ (.int .i64 k)).setCell ⟨w.heap.size, 1, none⟩ (.slice a1 n1 c1)).setCell ⟨w.heap.size, 2, none⟩ (.int .i64 h)).setCell ⟨w.heap.size, 3, none⟩ (.int .i64 q)).setCell ⟨w.heap.size, 4, none⟩ (.int .i64 r)).setCell ⟨w.heap.size + 1, 0, none⟩ (.int .i64 k')).setCell ⟨w.heap.size + 1, 1, none⟩ (.slice a2 n2 c2)).setCell ⟨w.heap.size + 1, 2, none⟩ (.int .i64 h')).setCell ⟨w.heap.size + 1, 3, none⟩ (.int .i64 q')).setCell ⟨w.heap.size + 1, 4, none⟩ (.int .i64 r')) := by
        iterate 10 (refine Zone.setCell ?_ ⟨Nat.zero_le _, by omega⟩ _)
        exact Zone.refl _ _ _
      have hBF : Below w.heap.size w ((((((((((w5.setCell ⟨w.heap.size, 0, none⟩ (.int .i64 k)).setCell ⟨w.heap.size, 1, none⟩ (.slice a1 n1 c1)).setCell ⟨w.heap.size, 2, none⟩ (.int .i64 h)).setCell ⟨w.heap.size, 3, none⟩ (.int .i64 q)).setCell ⟨w.heap.size, 4, none⟩ (.int .i64 r)).setCell ⟨w.heap.size + 1, 0, none⟩ (.int .i64 k')).setCell ⟨w.heap.size + 1, 1, none⟩ (.slice a2 n2 c2)).setCell ⟨w.heap.size + 1, 2, none⟩ (.int .i64 h')).setCell ⟨w.heap.size + 1, 3, none⟩ (.int .i64 q')).setCell ⟨w.heap.size + 1, 4, none⟩ (.int .i64 r')) := by
        iterate 10 (refine Below.setCell ?_ (by dsimp only; omega) _)
        exact hB5
      have hsz : ((((((((((w5.setCell ⟨w.heap.size, 0, none⟩ (.int .i64 k)).setCell ⟨w.heap.size, 1, none⟩ (.slice a1 n1 c1)).setCell ⟨w.heap.size, 2, none⟩ (.int .i64 h)).setCell ⟨w.heap.size, 3, none⟩ (.int .i64 q)).setCell ⟨w.heap.size, 4, none⟩ (.int .i64 r)).setCell ⟨w.heap.size + 1, 0, none⟩ (.int .i64 k')).setCell ⟨w.heap.size + 1, 1, none⟩ (.slice a2 n2 c2)).setCell ⟨w.heap.size + 1, 2, none⟩ (.int .i64 h')).setCell ⟨w.heap.size + 1, 3, none⟩ (.int .i64 q')).setCell ⟨w.heap.size + 1, 4, none⟩ (.int .i64 r')).heap.size = w5.heap.size := by simp only [size_set]
      obtain ⟨g0, g1, g2, g3, g4⟩ := ((((((((((q15.set0 (.int .i64 k)).set1 (.slice a1 n1 c1)).set2 (.int .i64 h)).set3 (.int .i64 q)).set4 (.int .i64 r)).other (a := ⟨w.heap.size + 1, 0, none⟩) (.int .i64 k') (by simp)).other (a := ⟨w.heap.size + 1, 1, none⟩) (.slice a2 n2 c2) (by simp)).other (a := ⟨w.heap.size + 1, 2, none⟩) (.int .i64 h') (by simp)).other (a := ⟨w.heap.size + 1, 3, none⟩) (.int .i64 q') (by simp)).other (a := ⟨w.heap.size + 1, 4, none⟩) (.int .i64 r') (by simp)).cells
      obtain ⟨i0, i1, i2, i3, i4⟩ := ((((((((((q25.other (a := ⟨w.heap.size, 0, none⟩) (.int .i64 k) (by simp)).other (a := ⟨w.heap.size, 1, none⟩) (.slice a1 n1 c1) (by simp)).other (a := ⟨w.heap.size, 2, none⟩) (.int .i64 h) (by simp)).other (a := ⟨w.heap.size, 3, none⟩) (.int .i64 q) (by simp)).other (a := ⟨w.heap.size, 4, none⟩) (.int .i64 r) (by simp)).set0 (.int .i64 k')).set1 (.slice a2 n2 c2)).set2 (.int .i64 h')).set3 (.int .i64 q')).set4 (.int .i64 r')).cells
      have hra2 : Row .i64 0 ((((((((((w5.setCell ⟨w.heap.size, 0, none⟩ (.int .i64 k)).setCell ⟨w.heap.size, 1, none⟩ (.slice a1 n1 c1)).setCell ⟨w.heap.size, 2, none⟩ (.int .i64 h)).setCell ⟨w.heap.size, 3, none⟩ (.int .i64 q)).setCell ⟨w.heap.size, 4, none⟩ (.int .i64 r)).setCell ⟨w.heap.size + 1, 0, none⟩ (.int .i64 k')).setCell ⟨w.heap.size + 1, 1, none⟩ (.slice a2 n2 c2)).setCell ⟨w.heap.size + 1, 2, none⟩ (.int .i64 h')).setCell ⟨w.heap.size + 1, 3, none⟩ (.int .i64 q')).setCell ⟨w.heap.size + 1, 4, none⟩ (.int .i64 r')).heap.size ((((((((((w5.setCell ⟨w.heap.size, 0, none⟩ (.int .i64 k)).setCell ⟨w.heap.size, 1, none⟩ (.slice a1 n1 c1)).setCell ⟨w.heap.size, 2, none⟩ (.int .i64 h)).setCell ⟨w.heap.size, 3, none⟩ (.int .i64 q)).setCell ⟨w.heap.size, 4, none⟩ (.int .i64 r)).setCell ⟨w.heap.size + 1, 0, none⟩ (.int .i64 k')).setCell ⟨w.heap.size + 1, 1, none⟩ (.slice a2 n2 c2)).setCell ⟨w.heap.size + 1, 2, none⟩ (.int .i64 h')).setCell ⟨w.heap.size + 1, 3, none⟩ (.int .i64 q')).setCell ⟨w.heap.size + 1, 4, none⟩ (.int .i64 r')) a1 n1 xs := (hra.zone hZ (by omega)).more (Nat.zero_le _) (by rw [hsz]; first | exact Nat.le_refl _ | exact hs5)
      have hrb2 : Row .i64 0 ((((((((((w5.setCell ⟨w.heap.size, 0, none⟩ (.int .i64 k)).setCell ⟨w.heap.size, 1, none⟩ (.slice a1 n1 c1)).setCell ⟨w.heap.size, 2, none⟩ (.int .i64 h)).setCell ⟨w.heap.size, 3, none⟩ (.int .i64 q)).setCell ⟨w.heap.size, 4, none⟩ (.int .i64 r)).setCell ⟨w.heap.size + 1, 0, none⟩ (.int .i64 k')).setCell ⟨w.heap.size + 1, 1, none⟩ (.slice a2 n2 c2)).setCell ⟨w.heap.size + 1, 2, none⟩ (.int .i64 h')).setCell ⟨w.heap.size + 1, 3, none⟩ (.int .i64 q')).setCell ⟨w.heap.size + 1, 4, none⟩ (.int .i64 r')).heap.size ((((((((((w5.setCell ⟨w.heap.size, 0, none⟩ (.int .i64 k)).setCell ⟨w.heap.size, 1, none⟩ (.slice a1 n1 c1)).setCell ⟨w.heap.size, 2, none⟩ (.int .i64 h)).setCell ⟨w.heap.size, 3, none⟩ (.int .i64 q)).setCell ⟨w.heap.size, 4, none⟩ (.int .i64 r)).setCell ⟨w.heap.size + 1, 0, none⟩ (.int .i64 k')).setCell ⟨w.heap.size + 1, 1, none⟩ (.slice a2 n2 c2)).setCell ⟨w.heap.size + 1, 2, none⟩ (.int .i64 h')).setCell ⟨w.heap.size + 1, 3, none⟩ (.int .i64 q')).setCell ⟨w.heap.size + 1, 4, none⟩ (.int .i64 r')) a2 n2 ys := (hrb.zone hZ (by omega)).more (Nat.zero_le _) (by rw [hsz]; first | exact Nat.le_refl _ | exact hs5)
      go_wp2
      refine bodyPost_ret (v := .tuple #[(Value.agg #[Value.int IntKind.i64 (k), Value.slice (a1) (n1) (c1), Value.int IntKind.i64 (h), Value.int IntKind.i64 (q), Value.int IntKind.i64 (r)]), (Value.agg #[Value.int IntKind.i64 (k'), Value.slice (a2) (n2) (c2), Value.int IntKind.i64 (h'), Value.int IntKind.i64 (q'), Value.int IntKind.i64 (r')])]) (by simp [results, Try.results15, go_sem, g0, g1, g2, g3, g4, i0, i1, i2, i3, i4]) rfl ?_
      exact ⟨k, h, q, r, a1, n1, c1, xs, k', h', q', r', a2, n2, c2, ys, hk, hh, hq, hr, hk', hh', hq', hr', rfl, hra2, hrb2, hn, hn', hBF⟩
  · go_wp2_with fail
    go_region_held3 (fun w' => w'.cell? ⟨w2.heap.size, 0, none⟩ = some (.int .i64 k) ∧ w'.cell? ⟨w2.heap.size, 1, none⟩ = some (.slice a1 n1 c1) ∧ w'.cell? ⟨w2.heap.size, 2, none⟩ = some (.int .i64 h) ∧ w'.cell? ⟨w2.heap.size, 3, none⟩ = some (.int .i64 q) ∧ w'.cell? ⟨w2.heap.size, 4, none⟩ = some (.int .i64 r))
      (first | (with_reducible exact s9) | (with_reducible exact kd) | (with_reducible exact s10) | (with_reducible exact s11) | go_keep)
      (first
      | (go_at_call 36; refine (copy5 _ _ k h q r _ a1 n1 c1 xs hrd (by omega)).mono ?_; rintro e w5 ⟨a2, c2, rfl, hv', hc5, hd5, hb5⟩; have q15 := q1d.below hb5; have q25 := q2d.below hb5; have qV5 := qVd.below hb5; have s9 := qV5.cells; have s10 := (((((qV5.other (a := ⟨w.heap.size, 0, none⟩) (.int .i64 k) (by simp; omega)).other (a := ⟨w.heap.size, 1, none⟩) (.slice a1 n1 c1) (by simp; omega)).other (a := ⟨w.heap.size, 2, none⟩) (.int .i64 h) (by simp; omega)).other (a := ⟨w.heap.size, 3, none⟩) (.int .i64 q) (by simp; omega)).other (a := ⟨w.heap.size, 4, none⟩) (.int .i64 r) (by simp; omega)).cells; have s11 := ((((((((((qV5.other (a := ⟨w.heap.size, 0, none⟩) (.int .i64 k) (by simp; omega)).other (a := ⟨w.heap.size, 1, none⟩) (.slice a1 n1 c1) (by simp; omega)).other (a := ⟨w.heap.size, 2, none⟩) (.int .i64 h) (by simp; omega)).other (a := ⟨w.heap.size, 3, none⟩) (.int .i64 q) (by simp; omega)).other (a := ⟨w.heap.size, 4, none⟩) (.int .i64 r) (by simp; omega)).other (a := ⟨w.heap.size + 1, 0, none⟩) (.int .i64 k) (by simp; omega)).other (a := ⟨w.heap.size + 1, 1, none⟩) (.slice a2 n1 c2) (by simp; omega)).other (a := ⟨w.heap.size + 1, 2, none⟩) (.int .i64 h) (by simp; omega)).other (a := ⟨w.heap.size + 1, 3, none⟩) (.int .i64 q) (by simp; omega)).other (a := ⟨w.heap.size + 1, 4, none⟩) (.int .i64 r) (by simp; omega)).cells; have hra := hrd.below hb5; have hrb := hv'.row; have hB5 := hBd.trans (hb5.mono hBd.size); have hs5 := hb5.size; obtain ⟨v0, v1, v2, v3, v4⟩ := q15.cells; obtain ⟨x0, x1, x2, x3, x4⟩ := q15.frozen; obtain ⟨u0, u1, u2, u3, u4⟩ := q25.cells; obtain ⟨z0, z1, z2, z3, z4⟩ := q25.frozen))
    all_goals
      have hZ : Zone 0 (w.heap.size + 2) w5 ((((((((((w5.setCell ⟨w.heap.size, 0, none⟩ (.int .i64 k)).setCell ⟨w.heap.size, 1, none⟩ (.slice a1 n1 c1)).setCell ⟨w.heap.size, 2, none⟩ (.int .i64 h)).setCell ⟨w.heap.size, 3, none⟩ (.int .i64 q)).setCell ⟨w.heap.size, 4, none⟩ (.int .i64 r)).setCell ⟨w.heap.size + 1, 0, none⟩ (.int .i64 k)).setCell ⟨w.heap.size + 1, 1, none⟩ (.slice a2 n1 c2)).setCell ⟨w.heap.size + 1, 2, none⟩ (.int .i64 h)).setCell ⟨w.heap.size + 1, 3, none⟩ (.int .i64 q)).setCell ⟨w.heap.size + 1, 4, none⟩ (.int .i64 r)) := by
        iterate 10 (refine Zone.setCell ?_ ⟨Nat.zero_le _, by omega⟩ _)
        exact Zone.refl _ _ _
      have hBF : Below w.heap.size w ((((((((((w5.setCell ⟨w.heap.size, 0, none⟩ (.int .i64 k)).setCell ⟨w.heap.size, 1, none⟩ (.slice a1 n1 c1)).setCell ⟨w.heap.size, 2, none⟩ (.int .i64 h)).setCell ⟨w.heap.size, 3, none⟩ (.int .i64 q)).setCell ⟨w.heap.size, 4, none⟩ (.int .i64 r)).setCell ⟨w.heap.size + 1, 0, none⟩ (.int .i64 k)).setCell ⟨w.heap.size + 1, 1, none⟩ (.slice a2 n1 c2)).setCell ⟨w.heap.size + 1, 2, none⟩ (.int .i64 h)).setCell ⟨w.heap.size + 1, 3, none⟩ (.int .i64 q)).setCell ⟨w.heap.size + 1, 4, none⟩ (.int .i64 r)) := by
        iterate 10 (refine Below.setCell ?_ (by dsimp only; omega) _)
        exact hB5
      have hsz : ((((((((((w5.setCell ⟨w.heap.size, 0, none⟩ (.int .i64 k)).setCell ⟨w.heap.size, 1, none⟩ (.slice a1 n1 c1)).setCell ⟨w.heap.size, 2, none⟩ (.int .i64 h)).setCell ⟨w.heap.size, 3, none⟩ (.int .i64 q)).setCell ⟨w.heap.size, 4, none⟩ (.int .i64 r)).setCell ⟨w.heap.size + 1, 0, none⟩ (.int .i64 k)).setCell ⟨w.heap.size + 1, 1, none⟩ (.slice a2 n1 c2)).setCell ⟨w.heap.size + 1, 2, none⟩ (.int .i64 h)).setCell ⟨w.heap.size + 1, 3, none⟩ (.int .i64 q)).setCell ⟨w.heap.size + 1, 4, none⟩ (.int .i64 r)).heap.size = w5.heap.size := by simp only [size_set]
      obtain ⟨g0, g1, g2, g3, g4⟩ := ((((((((((q15.set0 (.int .i64 k)).set1 (.slice a1 n1 c1)).set2 (.int .i64 h)).set3 (.int .i64 q)).set4 (.int .i64 r)).other (a := ⟨w.heap.size + 1, 0, none⟩) (.int .i64 k) (by simp)).other (a := ⟨w.heap.size + 1, 1, none⟩) (.slice a2 n1 c2) (by simp)).other (a := ⟨w.heap.size + 1, 2, none⟩) (.int .i64 h) (by simp)).other (a := ⟨w.heap.size + 1, 3, none⟩) (.int .i64 q) (by simp)).other (a := ⟨w.heap.size + 1, 4, none⟩) (.int .i64 r) (by simp)).cells
      obtain ⟨i0, i1, i2, i3, i4⟩ := ((((((((((q25.other (a := ⟨w.heap.size, 0, none⟩) (.int .i64 k) (by simp)).other (a := ⟨w.heap.size, 1, none⟩) (.slice a1 n1 c1) (by simp)).other (a := ⟨w.heap.size, 2, none⟩) (.int .i64 h) (by simp)).other (a := ⟨w.heap.size, 3, none⟩) (.int .i64 q) (by simp)).other (a := ⟨w.heap.size, 4, none⟩) (.int .i64 r) (by simp)).set0 (.int .i64 k)).set1 (.slice a2 n1 c2)).set2 (.int .i64 h)).set3 (.int .i64 q)).set4 (.int .i64 r)).cells
      have hra2 : Row .i64 0 ((((((((((w5.setCell ⟨w.heap.size, 0, none⟩ (.int .i64 k)).setCell ⟨w.heap.size, 1, none⟩ (.slice a1 n1 c1)).setCell ⟨w.heap.size, 2, none⟩ (.int .i64 h)).setCell ⟨w.heap.size, 3, none⟩ (.int .i64 q)).setCell ⟨w.heap.size, 4, none⟩ (.int .i64 r)).setCell ⟨w.heap.size + 1, 0, none⟩ (.int .i64 k)).setCell ⟨w.heap.size + 1, 1, none⟩ (.slice a2 n1 c2)).setCell ⟨w.heap.size + 1, 2, none⟩ (.int .i64 h)).setCell ⟨w.heap.size + 1, 3, none⟩ (.int .i64 q)).setCell ⟨w.heap.size + 1, 4, none⟩ (.int .i64 r)).heap.size ((((((((((w5.setCell ⟨w.heap.size, 0, none⟩ (.int .i64 k)).setCell ⟨w.heap.size, 1, none⟩ (.slice a1 n1 c1)).setCell ⟨w.heap.size, 2, none⟩ (.int .i64 h)).setCell ⟨w.heap.size, 3, none⟩ (.int .i64 q)).setCell ⟨w.heap.size, 4, none⟩ (.int .i64 r)).setCell ⟨w.heap.size + 1, 0, none⟩ (.int .i64 k)).setCell ⟨w.heap.size + 1, 1, none⟩ (.slice a2 n1 c2)).setCell ⟨w.heap.size + 1, 2, none⟩ (.int .i64 h)).setCell ⟨w.heap.size + 1, 3, none⟩ (.int .i64 q)).setCell ⟨w.heap.size + 1, 4, none⟩ (.int .i64 r)) a1 n1 xs := (hra.zone hZ (by omega)).more (Nat.zero_le _) (by rw [hsz]; first | exact Nat.le_refl _ | exact hs5)
      have hrb2 : Row .i64 0 ((((((((((w5.setCell ⟨w.heap.size, 0, none⟩ (.int .i64 k)).setCell ⟨w.heap.size, 1, none⟩ (.slice a1 n1 c1)).setCell ⟨w.heap.size, 2, none⟩ (.int .i64 h)).setCell ⟨w.heap.size, 3, none⟩ (.int .i64 q)).setCell ⟨w.heap.size, 4, none⟩ (.int .i64 r)).setCell ⟨w.heap.size + 1, 0, none⟩ (.int .i64 k)).setCell ⟨w.heap.size + 1, 1, none⟩ (.slice a2 n1 c2)).setCell ⟨w.heap.size + 1, 2, none⟩ (.int .i64 h)).setCell ⟨w.heap.size + 1, 3, none⟩ (.int .i64 q)).setCell ⟨w.heap.size + 1, 4, none⟩ (.int .i64 r)).heap.size ((((((((((w5.setCell ⟨w.heap.size, 0, none⟩ (.int .i64 k)).setCell ⟨w.heap.size, 1, none⟩ (.slice a1 n1 c1)).setCell ⟨w.heap.size, 2, none⟩ (.int .i64 h)).setCell ⟨w.heap.size, 3, none⟩ (.int .i64 q)).setCell ⟨w.heap.size, 4, none⟩ (.int .i64 r)).setCell ⟨w.heap.size + 1, 0, none⟩ (.int .i64 k)).setCell ⟨w.heap.size + 1, 1, none⟩ (.slice a2 n1 c2)).setCell ⟨w.heap.size + 1, 2, none⟩ (.int .i64 h)).setCell ⟨w.heap.size + 1, 3, none⟩ (.int .i64 q)).setCell ⟨w.heap.size + 1, 4, none⟩ (.int .i64 r)) a2 n1 xs := (hrb.zone hZ (by omega)).more (Nat.zero_le _) (by rw [hsz]; first | exact Nat.le_refl _ | exact hs5)
      go_wp2
      refine bodyPost_ret (v := .tuple #[(Value.agg #[Value.int IntKind.i64 (k), Value.slice (a1) (n1) (c1), Value.int IntKind.i64 (h), Value.int IntKind.i64 (q), Value.int IntKind.i64 (r)]), (Value.agg #[Value.int IntKind.i64 (k), Value.slice (a2) (n1) (c2), Value.int IntKind.i64 (h), Value.int IntKind.i64 (q), Value.int IntKind.i64 (r)])]) (by simp [results, Try.results15, go_sem, g0, g1, g2, g3, g4, i0, i1, i2, i3, i4]) rfl ?_
      exact ⟨k, h, q, r, a1, n1, c1, xs, k, h, q, r, a2, n1, c2, xs, hk, hh, hq, hr, hk, hh, hq, hr, rfl, hra2, hrb2, hn, hn, hBF⟩
end Go.Proofs.Ytofhopiikbbakaa.Draw
