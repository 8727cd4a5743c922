/-
  The draw of any site: versions of which one may be changed.
  Conditions: the bytes lie below the cursor's block.
-/
import Derived.Test.YtagnhfalmefbhaaDraws9
import Derived.Test.YtagnhfalmefbhaaSheet
import Derived.Deep.CutBlock
import Derived.Deep.DeepCutAuto
namespace Go.Proofs.Ytagnhfalmefbhaa.Draw
set_option linter.unusedVariables false
open Go Go.RowKit Go.Proofs.Ytagnhfalmefbhaa.Mem Go.Proofs.Ytagnhfalmefbhaa.Gen Go.Proofs.Ytagnhfalmefbhaa.Adr Go.Proofs.Ytagnhfalmefbhaa.Res Go.Proofs.Ytagnhfalmefbhaa.Sites

/-- Versions that were drawn: their bodies are short. -/
def Brief (l : List TVersion) : Prop := ∀ P ∈ l, P.f2.f1.length ≤ 7
def IsSites (T B p : Nat) (w : World) (e : Ending) (w' : World) : Prop :=
  ∃ (a : Option Addr) (c : Nat) (l : List TVersion), e = .returned (.slice a l.length c) ∧ Lies w.heap.size w'.heap.size w' (dVersion l) (.slice a l.length c) ∧ l.length ≤ 8 ∧ Brief l ∧ Cur T B p w' ∧ Only p w w'
theorem brief_small {l : List TVersion} (h : ∀ P ∈ l, SmallV P) : Brief l := fun P hP => by have := (h P hP).2.2.2; omega
theorem brief_set {l : List TVersion} {i : Nat} {V : TVersion} (h : Brief l) (hV : V.f2.f1.length ≤ 7) : Brief (l.set i V) := fun P hP => by
  rcases List.mem_or_eq_of_mem_set hP with q | rfl
  · exact h P q
  · exact hV
theorem getD_set {l : List TVersion} {i j : Nat} {V : TVersion} (hi : i < l.length) : (l.set i V).getD j nVersion = if j = i then V else l.getD j nVersion := by
  rw [List.getD_eq_getElem?_getD, List.getElem?_set]
  by_cases h : i = j
  · subst h; rw [if_pos rfl, if_pos hi, if_pos rfl]; rfl
  · rw [if_neg h, if_neg (fun e => h e.symm), List.getD_eq_getElem?_getD]
theorem lies_set {lo hi n i : Nat} {w : World} {v : Value} {l : List TVersion} {V : TVersion} {f : Nat → Nat → Dat} (h : Lies lo hi w (.row 9 n f) v) (hn : l.length = n) (hi' : i < n) (e : ∀ j, j < n → ∀ x, x < 9 → f j x = (if j = i then V else l.getD j nVersion).c x) : Lies lo hi w (dVersion (l.set i V)) v := by
  unfold dVersion
  rw [List.length_set, hn]
  exact h.congr fun j hj x hx => by rw [e j hj x hx, getD_set (by omega)]

set_option maxHeartbeats 4000000 in
set_option maxRecDepth 100000 in
theorem any9 (B p : Nat) (w : World) (hc : Cur 97 B p w) :
    Calls Try.prog 66 #[.pointer (some ⟨p, 0, none⟩)] w (IsSites 97 B p w) := by
  have hpl := hc.lt
  have hBp := hc.1
  go_enter Try.func66, Try.ntmps66
  go_wp2_with fail
  go_at_call 88
  refine (draw9 B p w hc).mono ?_
  rintro e w1 ⟨v, l, rfl, hbuf, hlen, hsm, hc1, ho1⟩
  have hs1 := ho1.size
  obtain ⟨A, c, rfl, hnc, hcm⟩ := hbuf.shape
  have hown : Owns w1 (.row 9 l.length (vers l)) (.slice A l.length c) (Span w.heap.size w1.heap.size) := hbuf.owns
  have hbr := Lib.hid (brief_small hsm)
  obtain ⟨n, hn⟩ : ∃ n, l.length = n := ⟨_, rfl⟩
  rw [hn] at hown hlen hnc ⊢
  have HN := Lib.hid hn
  clear hbuf hsm hc hn
  rcases Nat.eq_zero_or_pos n with rfl | hpos
  · go_wp2
    go_ret
    have hl : l = [] := List.length_eq_zero_iff.1 HN.out
    subst hl
    exact ⟨A, c, [], rfl, Owns.lies hown (fun t h => h), by simp, hbr.out, hc1, ho1⟩
  have hn0 : ((n : Int) == 0) = false := by simp; omega
  go_wp2_with fail
  go_at_call 65
  refine (below_any B p _ _ hc1 (by omega) (by omega)).mono ?_
  rintro e w2 ⟨⟨i, hi, rfl⟩, hc2, ho2⟩
  have hin : i < n := by simpa using hi
  have hii : (i : Int) < (n : Int) := by omega
  have hown2 := Owns.keep hown fun t ht hS => ho2.block t ht (by have := hS.1; omega)
  have hO2 := ho1.trans ho2
  have hs2 := ho2.size
  clear hown hc1 ho1 ho2 hi
  go_wp2_with fail
  go_at_call 65
  refine (below_any B p _ _ hc2 (by omega) (by omega)).mono ?_
  rintro e w3 ⟨⟨k, hk, rfl⟩, hc3, ho3⟩
  have hown3 := Owns.keep hown2 fun t ht hS => ho3.block t ht (by have := hS.1; omega)
  have hO3 := hO2.trans ho3
  have hs3 := ho3.size
  clear hown2 hc2 hO2 ho3 hk
  by_cases k0 : k = 0
  · subst k0
    go_wp2_with fail
    go_at_call 90
    refine (any4 B p _ hc3).mono ?_
    rintro e w4 ⟨⟨h', q', r', hh', hq', hr', rfl⟩, hc4, ho4⟩
    have hown4 := Owns.keep hown3 fun t ht hS => ho4.block t ht (by have := hS.1; omega)
    have hO4 := hO3.trans ho4
    have hs4 := ho4.size
    obtain ⟨b, off, rfl, hsh1⟩ := Sheet.of_owns hown4 (lo := w.heap.size) (hi := w1.heap.size) hpos (by omega) (fun t h => h)
    have hle := hsh1.le
    have hbd := hsh1.bd
    have hsh := hsh1.more (hi2 := w4.heap.size) (by omega)
    obtain ⟨f0, u0, c0⟩ := hsh.cell hin (x := 0) (by omega)
    have f0 : w4.frozen? ⟨b, off + i * 9, none⟩ = false := f0
    have c0 : w4.cell? ⟨b, off + i * 9, none⟩ = some u0 := c0
    obtain ⟨f1, u1, c1⟩ := hsh.cell hin (x := 1) (by omega)
    obtain ⟨f2, u2, c2⟩ := hsh.cell hin (x := 2) (by omega)
    have t0 := hsh.put hin (x := 0) (by omega) (Stay.int (z := h') (WalkArith.wf_i64 (by unfold I64 at hh'; omega)))
    have t1 := t0.put hin (x := 1) (by omega) (Stay.int (z := q') (WalkArith.wf_i64 (by unfold I64 at hq'; omega)))
    have t2 := t1.put hin (x := 2) (by omega) (Stay.int (z := r') (WalkArith.wf_i64 (by unfold I64 at hr'; omega)))
    obtain ⟨VF, hVF⟩ : ∃ V, (((w4.setCell ⟨b, off + i * 9, none⟩ (.int .i64 h')).setCell ⟨b, off + i * 9 + 1, none⟩ (.int .i64 q')).setCell ⟨b, off + i * 9 + 2, none⟩ (.int .i64 r')) = V := ⟨_, rfl⟩
    have hcF := (((hc4.only_new (a := ⟨b, off + i * 9, none⟩) (by dsimp only; omega) (by dsimp only; omega) (.int .i64 h')).only_new (a := ⟨b, off + i * 9 + 1, none⟩) (by dsimp only; omega) (by dsimp only; omega) (.int .i64 q')).only_new (a := ⟨b, off + i * 9 + 2, none⟩) (by dsimp only; omega) (by dsimp only; omega) (.int .i64 r'))
    have hOF := (((hO4.setNew (a := ⟨b, off + i * 9, none⟩) (by dsimp only; omega) (.int .i64 h')).setNew (a := ⟨b, off + i * 9 + 1, none⟩) (by dsimp only; omega) (.int .i64 q')).setNew (a := ⟨b, off + i * 9 + 2, none⟩) (by dsimp only; omega) (.int .i64 r'))
    have hsF : VF.heap.size = w4.heap.size := by rw [← hVF]; simp only [gsize_set]
    have tF : Sheet w.heap.size w4.heap.size b off n 9 VF (putD (putD (putD (vers l) i 0 (.int h')) i 1 (.int q')) i 2 (.int r')) := by rw [← hVF]; exact t2
    rw [hVF] at hcF hOF
    have HL := Lib.hid (lies_set (V := ⟨⟨h', q', r'⟩, (l.getD i nVersion).f1, (l.getD i nVersion).f2⟩) (tF.lies hnc hcm) HN.out hin (fun j hj x hx => by
      by_cases he : j = i
      · subst he; rw [if_pos rfl]; rcases x with _ | _ | _ | _ | _ | _ | _ | _ | _ | x <;> first | omega | simp [putD, vers, TVersion.c]
      · rw [if_neg he]; simp [putD, he, vers]))
    clear tF hsh hsh1 t0 t1 t2 hown4 hown3
    go_wp2
    try rw [hVF]
    go_ret
    exact ⟨_, c, l.set i ⟨⟨h', q', r'⟩, (l.getD i nVersion).f1, (l.getD i nVersion).f2⟩, by (have e := HN.out; simp only [List.length_set, e]; try rfl), by rw [hsF, List.length_set, HN.out]; exact HL.out, by rw [List.length_set, HN.out]; exact hlen, brief_set hbr.out (by have := hbr.out (l.getD i nVersion) (by rw [List.getD_eq_getElem?_getD, List.getElem?_eq_getElem (by rw [HN.out]; exact hin)]; exact List.getElem_mem _); exact this), hcF, hOF⟩
  have e0 : ((k : Int) == 0) = false := by simp; omega
  by_cases k1 : k = 1
  · subst k1
    go_wp2_with fail
    go_at_call 34
    refine (int_new B p [-1, 1000, 1001] _ _ _ rfl _ _ rfl hc3 (by decide) (by decide)).mono ?_
    rintro e w4 ⟨⟨z, hz, rfl⟩, hc4, ho4⟩
    have hz' : I64 z := by simp at hz; unfold I64; omega
    have hown4 := Owns.keep hown3 fun t ht hS => ho4.block t ht (by have := hS.1; omega)
    have hO4 := hO3.trans ho4
    have hs4 := ho4.size
    obtain ⟨b, off, rfl, hsh1⟩ := Sheet.of_owns hown4 (lo := w.heap.size) (hi := w1.heap.size) hpos (by omega) (fun t h => h)
    have hle := hsh1.le
    have hbd := hsh1.bd
    have hsh := hsh1.more (hi2 := w4.heap.size) (by omega)
    obtain ⟨f3, u3, c3⟩ := hsh.cell hin (x := 3) (by omega)
    have t0 := hsh.put hin (x := 3) (by omega) (Stay.int (z := z) (WalkArith.wf_i64 (by unfold I64 at hz'; omega)))
    obtain ⟨VF, hVF⟩ : ∃ V, (w4.setCell ⟨b, off + i * 9 + 3, none⟩ (.int .i64 z)) = V := ⟨_, rfl⟩
    have hcF := (hc4.only_new (a := ⟨b, off + i * 9 + 3, none⟩) (by dsimp only; omega) (by dsimp only; omega) (.int .i64 z))
    have hOF := (hO4.setNew (a := ⟨b, off + i * 9 + 3, none⟩) (by dsimp only; omega) (.int .i64 z))
    have hsF : VF.heap.size = w4.heap.size := by rw [← hVF]; simp only [gsize_set]
    have tF : Sheet w.heap.size w4.heap.size b off n 9 VF (putD (vers l) i 3 (.int z)) := by rw [← hVF]; exact t0
    rw [hVF] at hcF hOF
    have HL := Lib.hid (lies_set (V := ⟨(l.getD i nVersion).f0, z, (l.getD i nVersion).f2⟩) (tF.lies hnc hcm) HN.out hin (fun j hj x hx => by
      by_cases he : j = i
      · subst he; rw [if_pos rfl]; rcases x with _ | _ | _ | _ | _ | _ | _ | _ | _ | x <;> first | omega | simp [putD, vers, TVersion.c]
      · rw [if_neg he]; simp [putD, he, vers]))
    clear tF hsh hsh1 t0 hown4 hown3
    go_wp2
    try rw [hVF]
    go_ret
    exact ⟨_, c, l.set i ⟨(l.getD i nVersion).f0, z, (l.getD i nVersion).f2⟩, by (have e := HN.out; simp only [List.length_set, e]; try rfl), by rw [hsF, List.length_set, HN.out]; exact HL.out, by rw [List.length_set, HN.out]; exact hlen, brief_set hbr.out (by have := hbr.out (l.getD i nVersion) (by rw [List.getD_eq_getElem?_getD, List.getElem?_eq_getElem (by rw [HN.out]; exact hin)]; exact List.getElem_mem _); exact this), hcF, hOF⟩
  have e1 : ((k : Int) == 1) = false := by simp; omega
  by_cases k2 : k = 2
  · subst k2
    go_wp2_with fail
    go_at_call 79
    refine (any5 B p _ hc3).mono ?_
    rintro e w4 ⟨k', h', q', r', a', n', c', zs, hk', hh', hq', hr', rfl, hv, hn', hg, hc4, ho4⟩
    have hown4 := Owns.keep hown3 fun t ht hS => ho4.block t ht (by have := hS.1; omega)
    have hO4 := hO3.trans ho4
    have hs4 := ho4.size
    obtain ⟨a2, c2, e', hn1, hn2, hrow⟩ := OwnI.own hv hg.wf
    injection e' with e1' e2' e3'
    subst e1' e3'
    have hzl : zs.length = n' := OwnI.len hv
    subst hzl
    have hbo : Owns w4 (ints zs) (.slice a' zs.length c') (Span w3.heap.size w4.heap.size) := Owns.of_row hrow hn1 hn2 (fun t a b => ⟨a, b⟩)
    obtain ⟨b, off, rfl, hsh1⟩ := Sheet.of_owns hown4 (lo := w.heap.size) (hi := w1.heap.size) hpos (by omega) (fun t h => h)
    have hle := hsh1.le
    have hbd := hsh1.bd
    have hsh := hsh1.more (hi2 := w4.heap.size) (by omega)
    obtain ⟨f4, u4, c4⟩ := hsh.cell hin (x := 4) (by omega)
    obtain ⟨f5, u5, c5⟩ := hsh.cell hin (x := 5) (by omega)
    obtain ⟨f6, u6, c6⟩ := hsh.cell hin (x := 6) (by omega)
    obtain ⟨f7, u7, c7⟩ := hsh.cell hin (x := 7) (by omega)
    obtain ⟨f8, u8, c8⟩ := hsh.cell hin (x := 8) (by omega)
    have t0 := hsh.put hin (x := 4) (by omega) (Stay.int (z := k') (WalkArith.wf_i64 (by unfold I64 at hk'; omega)))
    have t1 := t0.put hin (x := 5) (by omega) ((Stay.owns hbo (lo := w.heap.size) (hi := w4.heap.size) (fun t h => ⟨by have := h.1; omega, h.2⟩) (fun h => by have := h.1; omega)).keep (fun t ht _ _ => heap_setCell_other _ _ t _ ht) (by rw [gsize_set]; exact Nat.le_refl _))
    have t2 := t1.put hin (x := 6) (by omega) (Stay.int (z := h') (WalkArith.wf_i64 (by unfold I64 at hh'; omega)))
    have t3 := t2.put hin (x := 7) (by omega) (Stay.int (z := q') (WalkArith.wf_i64 (by unfold I64 at hq'; omega)))
    have t4 := t3.put hin (x := 8) (by omega) (Stay.int (z := r') (WalkArith.wf_i64 (by unfold I64 at hr'; omega)))
    obtain ⟨VF, hVF⟩ : ∃ V, (((((w4.setCell ⟨b, off + i * 9 + 4, none⟩ (.int .i64 k')).setCell ⟨b, off + i * 9 + 5, none⟩ (.slice a' zs.length c')).setCell ⟨b, off + i * 9 + 6, none⟩ (.int .i64 h')).setCell ⟨b, off + i * 9 + 7, none⟩ (.int .i64 q')).setCell ⟨b, off + i * 9 + 8, none⟩ (.int .i64 r')) = V := ⟨_, rfl⟩
    have hcF := (((((hc4.only_new (a := ⟨b, off + i * 9 + 4, none⟩) (by dsimp only; omega) (by dsimp only; omega) (.int .i64 k')).only_new (a := ⟨b, off + i * 9 + 5, none⟩) (by dsimp only; omega) (by dsimp only; omega) (.slice a' zs.length c')).only_new (a := ⟨b, off + i * 9 + 6, none⟩) (by dsimp only; omega) (by dsimp only; omega) (.int .i64 h')).only_new (a := ⟨b, off + i * 9 + 7, none⟩) (by dsimp only; omega) (by dsimp only; omega) (.int .i64 q')).only_new (a := ⟨b, off + i * 9 + 8, none⟩) (by dsimp only; omega) (by dsimp only; omega) (.int .i64 r'))
    have hOF := (((((hO4.setNew (a := ⟨b, off + i * 9 + 4, none⟩) (by dsimp only; omega) (.int .i64 k')).setNew (a := ⟨b, off + i * 9 + 5, none⟩) (by dsimp only; omega) (.slice a' zs.length c')).setNew (a := ⟨b, off + i * 9 + 6, none⟩) (by dsimp only; omega) (.int .i64 h')).setNew (a := ⟨b, off + i * 9 + 7, none⟩) (by dsimp only; omega) (.int .i64 q')).setNew (a := ⟨b, off + i * 9 + 8, none⟩) (by dsimp only; omega) (.int .i64 r'))
    have hsF : VF.heap.size = w4.heap.size := by rw [← hVF]; simp only [gsize_set]
    have tF : Sheet w.heap.size w4.heap.size b off n 9 VF (putD (putD (putD (putD (putD (vers l) i 4 (.int k')) i 5 (ints zs)) i 6 (.int h')) i 7 (.int q')) i 8 (.int r')) := by rw [← hVF]; exact t4
    rw [hVF] at hcF hOF
    have HL := Lib.hid (lies_set (V := ⟨(l.getD i nVersion).f0, (l.getD i nVersion).f1, ⟨k', zs, ⟨h', q', r'⟩⟩⟩) (tF.lies hnc hcm) HN.out hin (fun j hj x hx => by
      by_cases he : j = i
      · subst he; rw [if_pos rfl]; rcases x with _ | _ | _ | _ | _ | _ | _ | _ | _ | x <;> first | omega | simp [putD, vers, TVersion.c]
      · rw [if_neg he]; simp [putD, he, vers]))
    clear tF hsh hsh1 t0 t1 t2 t3 t4 hown4 hown3
    go_wp2
    try rw [hVF]
    go_ret
    exact ⟨_, c, l.set i ⟨(l.getD i nVersion).f0, (l.getD i nVersion).f1, ⟨k', zs, ⟨h', q', r'⟩⟩⟩, by (have e := HN.out; simp only [List.length_set, e]; try rfl), by rw [hsF, List.length_set, HN.out]; exact HL.out, by rw [List.length_set, HN.out]; exact hlen, brief_set hbr.out (by exact hn'), hcF, hOF⟩
  have e2 : ((k : Int) == 2) = false := by simp; omega
  go_wp2
  go_ret
  have hL := Owns.lies hown3 (lo := w.heap.size) (hi := w3.heap.size) (fun t h => ⟨h.1, by have := h.2; omega⟩)
  exact ⟨A, c, l, by (have e := HN.out; simp only [e]; try rfl), by unfold dVersion; rw [HN.out]; exact hL, by rw [HN.out]; exact hlen, hbr.out, hc3, hO3⟩
end Go.Proofs.Ytagnhfalmefbhaa.Draw
