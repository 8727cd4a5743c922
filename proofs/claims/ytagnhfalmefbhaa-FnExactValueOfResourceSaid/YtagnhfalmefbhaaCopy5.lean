/-
  A resource's copy by the model.
  Conditions: the body lies in memory.
-/
import Derived.Test.YtagnhfalmefbhaaSteps
import Derived.Test.YtagnhfalmefbhaaRes
import Derived.Deep.RegionHeld3
namespace Go.Proofs.Ytagnhfalmefbhaa.Draw
open Go Go.RowKit Go.Proofs.Ytagnhfalmefbhaa.Mem Go.Proofs.Ytagnhfalmefbhaa.Adr Go.Proofs.Ytagnhfalmefbhaa.Res

theorem step_append_rows {P : Program} {ops : Array Oper} {o : Oper} {a : Act} {w : World} {K : Act → World → Prop} {Q : Exit → Act → World → Prop} {E : Prop} {k : IntKind} (hgd : o.guard = none) (s x : Operand) (t : TypeId)
    (ho : o.op = .call { callee := .builtin .append, args := #[s, x], argTypes := #[t, t] })
    (base e : Nat) (i : TypeInfo) (z : Value) (bytes : Nat) (ht : P.underlying t = some (.slice e)) (hi : P.info? e = some i) (hz : i.zero = some z)
    (hsize : i.size = 1) (hby : i.bytes = bytes) (hzs : z.cells.size = 1)
    (v : Value) (n : Nat) (xs : List Int) (hs : a.eval s = v) (hown : OwnI k e base w v n xs)
    (lo hi' : Nat) (A : Option Addr) (m c : Nat) (zs : List Int) (hx : a.eval x = .slice A m c) (hr : Row k lo hi' w A m zs)
    (h63 : n + m ≤ maxLen) (hbytes : (n + m) * bytes ≤ 140737488355328) (hbase : base ≤ w.heap.size)
    (h : ∀ a' c' w', OwnI k e base w' (.slice a' (n + m) c') (n + m) (xs ++ zs) → Below base w w' → K (a.put o.dst (.slice a' (n + m) c')) w') :
    if Region.wanted o (yielded ops a.tmps) = true then Oper.wp P o a w K Q else E := by
  have hw : Region.wanted o (yielded ops a.tmps) = true := by simp [Region.wanted, hgd]
  rw [if_pos hw]
  have hl := hr.len
  have hsh : ∀ v' w', OwnI k e base w' v' (n + m) (xs ++ zs) → ∃ a' c', v' = .slice a' (n + m) c' := by
    intro v' w' h2
    rcases h2.2 with ⟨rfl, h0⟩ | ⟨g, cap, cur, rfl, _⟩
    · exact ⟨none, 0, by rw [h0]⟩
    · exact ⟨_, _, rfl⟩
  rcases A with _ | ad
  · have hm : m = 0 := by
      rcases Nat.eq_zero_or_pos m with h0 | h0
      · exact h0
      · obtain ⟨b, off, h, _⟩ := hr.here h0; cases h
    subst hm
    obtain rfl := List.eq_nil_of_length_eq_zero hl
    have hrun := run_append_none (P := P) t o.type i ht hi c hown
    have h2 : OwnI k e base w v (n + 0) (xs ++ []) := by simpa using hown
    obtain ⟨a', c', hv⟩ := hsh v w h2
    have hK := h a' c' w (by rw [← hv]; exact h2) (Below.refl _ _)
    rw [← hv] at hK
    unfold Oper.wp
    simp [execOp, ho, resolve, invoke, builtin, hs, hx, hrun, Result.andThen]
    exact hK
  · refine wp_append_own w s x t ho base e i z 1 bytes ht hi hz hsize hby hzs (by omega) v n _ hs hown ad m c (zs.map (Value.int k)) hx (by simpa using hl) ?_ (ints_oneCell k zs) h63 hbytes hbase ?_
    · intro j u hu
      have hj : j < m := by
        have := (List.getElem?_eq_some_iff.1 hu).1
        simp at this; omega
      obtain ⟨b, off, hab, _, _, hc⟩ := hr.cell hj
      injection hab with hab
      subst hab
      rw [getD_map_int _ _ _ (by omega)] at hu
      injection hu with hu
      subst hu
      rw [add_pl]; exact hc
    · intro v' w' h2 h3 _
      have h2' : OwnI k e base w' v' (n + m) (xs ++ zs) := by unfold OwnI; rw [List.map_append]; exact h2
      obtain ⟨a', c', rfl⟩ := hsh v' w' h2'
      exact h a' c' w' h2' (OwnI.grown hown h3 hbase)

set_option maxHeartbeats 1000000 in
set_option maxRecDepth 100000 in
theorem copy5 (lo hi : Nat) (k h q r : Int) (w : World) (a : Option Addr) (n c : Nat) (zs : List Int) (hr : Row .i64 lo hi w a n zs) (hn : n ≤ 1048576) :
    Calls Try.prog 98 #[(Value.agg #[Value.int IntKind.i64 (k), Value.slice (a) (n) (c), Value.int IntKind.i64 (h), Value.int IntKind.i64 (q), Value.int IntKind.i64 (r)])] w (Copied w.heap.size k h q r n zs w) := by
  obtain ⟨i0, hi0, hz0, hz1, hz2⟩ := info_parts Nts.info
  have hB0 : Below w.heap.size w ((w.alloc (.cells #[.int .i64 k, .slice a n c, .int .i64 h, .int .i64 q, .int .i64 r] 39)).alloc (.cells #[.int .i64 0, .slice none 0 0, .int .i64 0, .int .i64 0, .int .i64 0] 39)) := ((Below.refl _ _).alloc (Nat.le_refl _) _).alloc (le_alloc (Nat.le_refl _)) _
  have hBE : Below w.heap.size w (((w.alloc (.cells #[.int .i64 k, .slice a n c, .int .i64 h, .int .i64 q, .int .i64 r] 39)).alloc (.cells #[.int .i64 0, .slice none 0 0, .int .i64 0, .int .i64 0, .int .i64 0] 39)).alloc (.cells #[] 3)).drew := (hB0.alloc hB0.size _).drew
  have hS0 : ((w.alloc (.cells #[.int .i64 k, .slice a n c, .int .i64 h, .int .i64 q, .int .i64 r] 39)).alloc (.cells #[.int .i64 0, .slice none 0 0, .int .i64 0, .int .i64 0, .int .i64 0] 39)).heap.size = w.heap.size + 2 := by simp only [size_alloc]
  have qA0 : Quint 39 w.heap.size (.int .i64 k) (.slice a n c) (.int .i64 h) (.int .i64 q) (.int .i64 r) ((w.alloc (.cells #[.int .i64 k, .slice a n c, .int .i64 h, .int .i64 q, .int .i64 r] 39)).alloc (.cells #[.int .i64 0, .slice none 0 0, .int .i64 0, .int .i64 0, .int .i64 0] 39)) := (Quint.new _ _ _ _ _ _ w).alloc _
  have qR0 : Quint 39 (w.heap.size + 1) (.int .i64 0) (.slice none 0 0) (.int .i64 0) (.int .i64 0) (.int .i64 0) ((w.alloc (.cells #[.int .i64 k, .slice a n c, .int .i64 h, .int .i64 q, .int .i64 r] 39)).alloc (.cells #[.int .i64 0, .slice none 0 0, .int .i64 0, .int .i64 0, .int .i64 0] 39)) := by have := Quint.new 39 (.int .i64 0) (.slice none 0 0) (.int .i64 0) (.int .i64 0) (.int .i64 0) (w.alloc (.cells #[.int .i64 k, .slice a n c, .int .i64 h, .int .i64 q, .int .i64 r] 39)); rw [size_alloc] at this; exact this
  have qAE := (qA0.alloc (.cells #[] 3)).drew
  have qRE := (qR0.alloc (.cells #[] 3)).drew
  have hvE : OwnI .i64 3 (w.heap.size + 2) (((w.alloc (.cells #[.int .i64 k, .slice a n c, .int .i64 h, .int .i64 q, .int .i64 r] 39)).alloc (.cells #[.int .i64 0, .slice none 0 0, .int .i64 0, .int .i64 0, .int .i64 0] 39)).alloc (.cells #[] 3)).drew (.slice (some ⟨w.heap.size + 2, 0, none⟩) 0 0) 0 [] := by
    have := OwnI.made .i64 3 (base := w.heap.size + 2) ((w.alloc (.cells #[.int .i64 k, .slice a n c, .int .i64 h, .int .i64 q, .int .i64 r] 39)).alloc (.cells #[.int .i64 0, .slice none 0 0, .int .i64 0, .int .i64 0, .int .i64 0] 39)) (by omega)
    rw [hS0] at this
    exact this
  have hrE := hr.below hBE
  have hSE : (((w.alloc (.cells #[.int .i64 k, .slice a n c, .int .i64 h, .int .i64 q, .int .i64 r] 39)).alloc (.cells #[.int .i64 0, .slice none 0 0, .int .i64 0, .int .i64 0, .int .i64 0] 39)).alloc (.cells #[] 3)).drew.heap.size = w.heap.size + 3 := by rw [size_drew, size_alloc, hS0]
  obtain ⟨a0, a1, a2, a3, a4⟩ := qA0.cells
  obtain ⟨r0, r1, r2, r3, r4⟩ := qR0.cells
  obtain ⟨f0, f1, f2, f3, f4⟩ := qR0.frozen
  have kd := qA0.drew.cells
  have kE := qAE.cells
  have kE2 := (qA0.drew.alloc (.cells #[] 3)).cells
  obtain ⟨s0, s1, s2, s3, s4⟩ := qRE.cells
  obtain ⟨t0, t1, t2, t3, t4⟩ := qRE.frozen
  go_enter Try.func98, Try.ntmps98
  go_wp2_with fail
  go_region_held3 (fun w' => w'.cell? ⟨w.heap.size, 0, none⟩ = some (.int .i64 k) ∧ w'.cell? ⟨w.heap.size, 1, none⟩ = some (.slice a n c) ∧ w'.cell? ⟨w.heap.size, 2, none⟩ = some (.int .i64 h) ∧ w'.cell? ⟨w.heap.size, 3, none⟩ = some (.int .i64 q) ∧ w'.cell? ⟨w.heap.size, 4, none⟩ = some (.int .i64 r))
    (first | (with_reducible exact s9) | (with_reducible exact kE) | (with_reducible exact kE2) | (with_reducible exact kd) | go_keep)
    (first
    | (refine step_append_rows rfl _ _ 25 rfl (w.heap.size + 2) 3 i0 _ 8 Try.underlying25 hi0 hz0 hz1 hz2 rfl _ 0 [] rfl hvE lo hi a n c zs rfl hrE ?c3 ?c4 ?c5 ?_; (case c3 => unfold maxLen; omega); (case c4 => omega); (case c5 => omega); intro a' c' w5 hv5 hb5; have qA5 := qAE.under hb5 (by omega); have qR5 := qRE.under hb5 (by omega); have s9 := qA5.cells; obtain ⟨v0, v1, v2, v3, v4⟩ := qR5.cells; obtain ⟨x0, x1, x2, x3, x4⟩ := qR5.frozen; have hB5 := hBE.trans (hb5.mono (by omega))))
  all_goals
    have hvF := own5 (R := w.heap.size + 1) hv5 (by omega) (.int .i64 k) (.slice a' (0 + n) c') (.int .i64 h) (.int .i64 q) (.int .i64 r)
    obtain ⟨g0, g1, g2, g3, g4⟩ := (((((qR5.set0 (.int .i64 k)).set1 (.slice a' (0 + n) c')).set2 (.int .i64 h)).set3 (.int .i64 q)).set4 (.int .i64 r)).cells
    have hBF : Below w.heap.size w (((((w5.setCell ⟨w.heap.size + 1, 0, none⟩ (.int .i64 k)).setCell ⟨w.heap.size + 1, 1, none⟩ (.slice a' (0 + n) c')).setCell ⟨w.heap.size + 1, 2, none⟩ (.int .i64 h)).setCell ⟨w.heap.size + 1, 3, none⟩ (.int .i64 q)).setCell ⟨w.heap.size + 1, 4, none⟩ (.int .i64 r)) := by
      iterate 5 (refine Below.setCell ?_ (Nat.le_succ _) _)
      exact hB5
    simp only [Nat.zero_add, List.nil_append] at hvF g0 g1 g2 g3 g4 hBF
    obtain ⟨a2', c2', hv', h1, h2, h3⟩ := (ownI_more hvF (Nat.le_add_right w.heap.size 2)).own hr.wf
    injection hv' with hv1 _ hv2
    subst hv1 hv2
    go_wp2
    refine bodyPost_ret (v := (Value.agg #[Value.int IntKind.i64 (k), Value.slice (a') (n) (c'), Value.int IntKind.i64 (h), Value.int IntKind.i64 (q), Value.int IntKind.i64 (r)])) (by simp [results, Try.results98, go_sem, g0, g1, g2, g3, g4]) rfl ?_
    exact ⟨a', c', rfl, h3, h1, h2, hBF⟩
end Go.Proofs.Ytagnhfalmefbhaa.Draw
