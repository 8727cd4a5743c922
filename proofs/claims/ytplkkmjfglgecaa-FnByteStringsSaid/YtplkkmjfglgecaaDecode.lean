/-
  DecodeInts, of the program (named results that a deferred function settles) and of the model.
  Conditions: the row lies in memory.
-/
import Derived.Test.YtplkkmjfglgecaaReadB
import Derived.Test.YtplkkmjfglgecaaInts
import Derived.Defers
import Derived.RegionTactic
namespace Go.Proofs.Ytplkkmjfglgecaa.Read
open Go Go.RowKit Go.Proofs.Ytplkkmjfglgecaa.Mem Go.Proofs.Ytplkkmjfglgecaa.Var
set_option linter.unusedVariables false

/-- So many varints behind an offset, behind what was read. -/
def dec (zs : List Int) : Nat → Int → List Int → Option (List Int × Int)
  | 0, x, acc => some (acc, x)
  | k + 1, x, acc => match rdAt zs x with
    | none => none
    | some (m, l) => dec zs k (x + l) (acc ++ [(m : Int)])
theorem dec_zero (zs : List Int) (x : Int) (acc : List Int) : dec zs 0 x acc = some (acc, x) := rfl
theorem dec_none {zs : List Int} {x : Int} (k : Nat) (acc : List Int) (h : rdAt zs x = none) : dec zs (k + 1) x acc = none := by
  rw [dec, h]
theorem dec_some {zs : List Int} {x : Int} {m l : Nat} (k : Nat) (acc : List Int) (h : rdAt zs x = some (m, l)) : dec zs (k + 1) x acc = dec zs k (x + l) (acc ++ [(m : Int)]) := by
  rw [dec, h]
theorem dec_len {zs : List Int} : ∀ {k : Nat} {x : Int} {acc l : List Int} {q : Int}, dec zs k x acc = some (l, q) → l.length = acc.length + k := by
  intro k
  induction k with
  | zero => intro x acc l q h; injection h with h; injection h with h1 _; subst h1; rfl
  | succ k ih =>
    intro x acc l q h
    cases hR : rdAt zs x with
    | none => rw [dec_none k acc hR] at h; cases h
    | some ml =>
      obtain ⟨m, j⟩ := ml
      rw [dec_some k acc hR] at h
      have := ih h
      simp at this; omega

/-- What DecodeInts finds. -/
def dcR (zs : List Int) (x cnt : Int) : Option (List Int × Int) := if (0 ≤ cnt ∧ cnt ≤ 100) ∧ (0 ≤ x ∧ x ≤ zs.length) then dec zs cnt.toNat x [] else none
def dcL (zs : List Int) (x cnt : Int) : List Int := match dcR zs x cnt with | none => [] | some (l, _) => l
def dcQ (zs : List Int) (x cnt : Int) : Int := match dcR zs x cnt with | none => 0 | some (_, q) => q
def dcB (zs : List Int) (x cnt : Int) : Bool := match dcR zs x cnt with | none => false | some _ => true
theorem dcL_len (zs : List Int) (x cnt : Int) : (dcL zs x cnt).length ≤ 100 := by
  unfold dcL
  cases h : dcR zs x cnt with
  | none => simp
  | some lq =>
    obtain ⟨l, q⟩ := lq
    unfold dcR at h
    split at h
    · have := dec_len h
      simp at this
      show l.length ≤ 100
      omega
    · cases h

/-- What a call of DecodeInts hands back. -/
def Decoded (base : Nat) (R : Option (List Int × Int)) (w : World) (e : Ending) (w' : World) : Prop :=
  match R with
  | none => Slice3 .i64 base 0 [] 0 false w e w'
  | some (l, q) => Slice3 .i64 base l.length l q true w e w'
theorem decoded_law {base : Nat} {zs : List Int} {x cnt : Int} {w : World} {e : Ending} {w' : World} (h : Decoded base (dcR zs x cnt) w e w') : Slice3 .i64 base (dcL zs x cnt).length (dcL zs x cnt) (dcQ zs x cnt) (dcB zs x cnt) w e w' := by
  unfold dcL dcQ dcB
  cases hR : dcR zs x cnt with
  | none => rw [hR] at h; exact h
  | some lq => obtain ⟨l, q⟩ := lq; rw [hR] at h; exact h

theorem small_wf {l : List Int} (h : ∀ z ∈ l, (Lit.int .i64 z).wf = true) (m : Nat) (hm : m ≤ 1000000000000) : ∀ z ∈ l ++ [(m : Int)], (Lit.int .i64 z).wf = true := by
  intro z hz
  rcases List.mem_append.1 hz with hz | hz
  · exact h z hz
  · simp at hz; subst hz; exact WalkArith.wf_i64 (by omega)

set_option maxHeartbeats 2000000 in
set_option maxRecDepth 100000 in
theorem decode_spec_in (lo hi : Nat) (w : World) (a : Option Addr) (n c : Nat) (x : Int) (cnt : Nat) (zs : List Int) (R : Option (List Int × Int)) (hr : Row .u8 lo hi w a n zs) (hh : hi ≤ w.heap.size) (hn : n ≤ 35184372088832) (h0 : 0 ≤ x) (h1 : x ≤ n) (hc : cnt ≤ 100) (hR : Hid (dec zs cnt x [] = R)) :
    Calls Try.prog 37 #[.slice a n c, .int .i64 x, .int .i64 cnt] w (Decoded w.heap.size R w) := by
  obtain ⟨i0, hi0, hz0, hz1, hz2⟩ := info_parts Nts.info
  have HL := Lib.hid hr.len
  have hs := OwnI.made .i64 3 (base := w.heap.size) w (Nat.le_refl _)
  have hb := (Below.refl w.heap.size w).alloc (Nat.le_refl _) (.cells #[] 3)
  go_enter Try.func37, Try.ntmps37
  go_wp2_with (go_at_call 53; refine (Range.l1_yes _ _ _ _ (by omega) (by omega)).mono ?_; rintro e w' ⟨rfl, rfl⟩)
  go_loopw [1, 9, 10] (fun q v i wr => ∃ (j : Nat) (y : Int) (acc : List Int), j ≤ cnt ∧ i = .int .i64 j ∧ q = .int .i64 y ∧ 0 ≤ y ∧ y ≤ n ∧ OwnI .i64 3 w.heap.size wr v j acc ∧ Hid (∀ z ∈ acc, (Lit.int .i64 z).wf = true) ∧ Hid (dec zs (cnt - j) y acc = R) ∧ Below w.heap.size w wr) (fun _ _ i _ => cnt - (intOf i).toNat)
  case atStart => exact ⟨0, x, [], Nat.zero_le _, rfl, rfl, h0, h1, hs, (by intro z hz; cases hz), hR, hb⟩
  case round =>
    obtain ⟨j, y, acc, hj, rfl, rfl, hy0, hy1, ho, hwf, hD, hbw⟩ := hrel
    clear hs hb hR
    have hbs := hbw.size
    have hrk := hr.under hbw hh
    by_cases hlt : j < cnt
    · cases hR1 : rdAt zs y with
      | none =>
        have HR1 := Lib.hid hR1
        have hD2 := hD.out
        rw [show cnt - j = (cnt - (j + 1)) + 1 by omega, dec_none _ _ hR1] at hD2
        subst hD2
        clear hR1
        go_wp2_with fail
        go_at_call 18
        refine (spec_none hrk (by omega) hn (by omega) HR1).mono ?_
        rintro e w1 ⟨rfl, hb1⟩
        have hs1 := hb1.size
        go_wp2
        go_ret3
        exact ⟨_, _, rfl, Own.nil _ _ _ _ _, Nat.le_refl _, Nat.zero_le _, (hbw.trans (hb1.mono hbs)).alloc (by omega) _⟩
      | some ml =>
        obtain ⟨m, l⟩ := ml
        obtain ⟨y0, m1, l0, l1, hyl⟩ := rdAt_some hR1
        have hyn : y + (l : Int) ≤ n := by have := HL.out; omega
        clear hyl
        have HR1 := Lib.hid hR1
        have hD2 := hD.out
        rw [show cnt - j = (cnt - (j + 1)) + 1 by omega, dec_some _ _ hR1] at hD2
        have HD2 := Lib.hid hD2
        clear hR1 hD2
        go_wp2_with fail
        go_at_call 18
        refine (spec_some hrk (by omega) hn (by omega) HR1).mono ?_
        rintro e w1 ⟨rfl, hb1⟩
        have hs1 := hb1.size
        have ho1 := (ho.below hb1).alloc (.cells #[.int .i64 (m : Int)] 3)
        go_wp2_with (at_builtin; refine wpList_append_one rfl _ _ 35 rfl w.heap.size 3 i0 _ 8 Try.underlying35 hi0 hz0 hz1 hz2 rfl _ j acc rfl ho1 w1.heap.size 1 (m : Int) rfl ?c2 ?c3 ?c4 ?c5 ?_; (case c2 => rw [World.cell?_alloc_at _ _ _ _ rfl]; rfl); (case c3 => unfold maxLen; omega); (case c4 => omega); (case c5 => simp; omega); intro v' w' ho2 hb')
        go_roundw
        case rel => exact ⟨j + 1, _, _, by omega, by go_num, rfl, by omega, hyn, ho2, small_wf hwf.out m m1, HD2, ((hbw.trans (hb1.mono hbs)).alloc (by omega) _).trans hb'⟩
        case measure => simp [intOf]; omega
    · have hd : decide ((j : Int) < (cnt : Int)) = false := by simp; omega
      have hD2 := hD.out
      rw [show cnt - j = 0 by omega, dec_zero] at hD2
      subst hD2
      go_wp2
      go_ret3
      have hlen := ho.len
      obtain ⟨q, k, rfl, g1, g2, g3⟩ := ho.own hwf.out
      unfold Decoded
      simp only [hlen]
      exact ⟨_, _, rfl, g3, g1, g2, hbw⟩

set_option maxRecDepth 100000 in
theorem decode_spec_out (w : World) (a : Option Addr) (n c : Nat) (x cnt : Int) (h : ¬ ((0 ≤ cnt ∧ cnt ≤ 100) ∧ (0 ≤ x ∧ x ≤ n))) :
    Calls Try.prog 37 #[.slice a n c, .int .i64 x, .int .i64 cnt] w (Decoded w.heap.size none w) := by
  have hb := (Below.refl w.heap.size w).alloc (Nat.le_refl _) (.cells #[] 3)
  by_cases hc : 0 ≤ cnt ∧ cnt ≤ 100
  · have hx : x < 0 ∨ (n : Int) < x := by omega
    obtain ⟨c0, c1⟩ := hc
    clear h
    go_enter Try.func37, Try.ntmps37
    go_wp2_with fail
    refine (Range.l1_yes _ _ _ _ c0 c1).mono ?_
    rintro e w' ⟨rfl, rfl⟩
    go_wp2_with fail
    refine (Range.l1_no _ _ _ _ hx).mono ?_
    rintro e w' ⟨rfl, rfl⟩
    go_wp2
    go_ret3
    exact ⟨_, _, rfl, Own.nil _ _ _ _ _, Nat.le_refl _, Nat.zero_le _, hb⟩
  · have hx : cnt < 0 ∨ (100 : Int) < cnt := by omega
    clear h hc
    go_enter Try.func37, Try.ntmps37
    go_wp2_with fail
    refine (Range.l1_no _ _ _ _ hx).mono ?_
    rintro e w' ⟨rfl, rfl⟩
    go_wp2
    go_ret3
    exact ⟨_, _, rfl, Own.nil _ _ _ _ _, Nat.le_refl _, Nat.zero_le _, hb⟩

theorem decode_spec (lo hi : Nat) (w : World) (a : Option Addr) (n c : Nat) (x cnt : Int) (zs : List Int) (hr : Row .u8 lo hi w a n zs) (hh : hi ≤ w.heap.size) (hn : n ≤ 35184372088832) :
    Calls Try.prog 37 #[.slice a n c, .int .i64 x, .int .i64 cnt] w (Slice3 .i64 w.heap.size (dcL zs x cnt).length (dcL zs x cnt) (dcQ zs x cnt) (dcB zs x cnt) w) := by
  refine Calls.mono ?_ (fun _ _ h => decoded_law h)
  have hl := hr.len
  by_cases h : (0 ≤ cnt ∧ cnt ≤ 100) ∧ (0 ≤ x ∧ x ≤ n)
  · have h1 : dcR zs x cnt = dec zs cnt.toNat x [] := by unfold dcR; rw [hl]; exact if_pos h
    have h2 : ((cnt.toNat : Nat) : Int) = cnt := by omega
    have := decode_spec_in lo hi w a n c x cnt.toNat zs (dcR zs x cnt) hr hh hn (by omega) (by omega) (by omega) (by rw [h1]; rfl)
    rw [h2] at this
    exact this
  · have h1 : dcR zs x cnt = none := by unfold dcR; rw [hl]; exact if_neg h
    rw [h1]
    exact decode_spec_out w a n c x cnt h

/-! The program. -/
/-- The three named results: blocks s, s + 1, s + 2. -/
def Vars (s : Nat) (v : Value) (q : Int) (b : Bool) (w : World) : Prop :=
  w.heap[s]? = some (.cells #[v] 35 (0, 0)) ∧ w.heap[s + 1]? = some (.cells #[.int .i64 q] 3 (0, 0)) ∧ w.heap[s + 2]? = some (.cells #[.bool b] 4 (0, 0))
theorem Vars.below {s B : Nat} {v : Value} {q : Int} {b : Bool} {w w' : World} (h : Vars s v q b w) (hb : Below B w w') (hB : s + 3 ≤ B) : Vars s v q b w' :=
  ⟨(hb.block s (by omega)).trans h.1, (hb.block (s + 1) (by omega)).trans h.2.1, (hb.block (s + 2) (by omega)).trans h.2.2⟩
theorem Vars.cells {s : Nat} {v : Value} {q : Int} {b : Bool} {w : World} (h : Vars s v q b w) :
    w.cell? ⟨s, 0, none⟩ = some v ∧ w.cell? ⟨s + 1, 0, none⟩ = some (.int .i64 q) ∧ w.cell? ⟨s + 2, 0, none⟩ = some (.bool b) :=
  ⟨by simp [World.cell?, h.1], by simp [World.cell?, h.2.1], by simp [World.cell?, h.2.2]⟩
theorem Vars.frozen {s : Nat} {v : Value} {q : Int} {b : Bool} {w : World} (h : Vars s v q b w) :
    w.frozen? ⟨s, 0, none⟩ = false ∧ w.frozen? ⟨s + 1, 0, none⟩ = false ∧ w.frozen? ⟨s + 2, 0, none⟩ = false :=
  ⟨frozen_of_row w s 0 _ _ h.1, frozen_of_row w (s + 1) 0 _ _ h.2.1, frozen_of_row w (s + 2) 0 _ _ h.2.2⟩

theorem Vars.setV {s : Nat} {v : Value} {q : Int} {b : Bool} {w : World} (h : Vars s v q b w) (u : Value) : Vars s u q b (w.setCell ⟨s, 0, none⟩ u) :=
  ⟨by have := heap_setCell_same w s 0 _ _ u h.1; simpa using this, by rw [heap_setCell_other _ _ _ _ (by simp)]; exact h.2.1, by rw [heap_setCell_other _ _ _ _ (by simp)]; exact h.2.2⟩
theorem Vars.setQ {s : Nat} {v : Value} {q : Int} {b : Bool} {w : World} (h : Vars s v q b w) (u : Int) : Vars s v u b (w.setCell ⟨s + 1, 0, none⟩ (.int .i64 u)) :=
  ⟨by rw [heap_setCell_other _ _ _ _ (by simp)]; exact h.1, by have := heap_setCell_same w (s + 1) 0 _ _ (.int .i64 u) h.2.1; simpa using this, by rw [heap_setCell_other _ _ _ _ (by simp)]; exact h.2.2⟩
theorem Vars.setB {s : Nat} {v : Value} {q : Int} {b : Bool} {w : World} (h : Vars s v q b w) (u : Bool) : Vars s v q u (w.setCell ⟨s + 2, 0, none⟩ (.bool u)) :=
  ⟨by rw [heap_setCell_other _ _ _ _ (by simp)]; exact h.1, by rw [heap_setCell_other _ _ _ _ (by simp)]; exact h.2.1, by have := heap_setCell_same w (s + 2) 0 _ _ (.bool u) h.2.2; simpa using this⟩
theorem Vars.drew {s : Nat} {v : Value} {q : Int} {b : Bool} {w : World} (h : Vars s v q b w) : Vars s v q b w.drew := h
theorem vars_lit (w : World) (v : Value) (q : Int) (b : Bool) : Vars w.heap.size v q b (((w.alloc (.cells #[v] 35)).alloc (.cells #[.int .i64 q] 3)).alloc (.cells #[.bool b] 4)) := by
  refine ⟨?_, ?_, ?_⟩
  · rw [Below.heap_alloc _ _ _ (by simp; omega), Below.heap_alloc _ _ _ (by simp)]; exact heap_alloc_new w _
  · rw [Below.heap_alloc _ _ _ (by simp)]
    have := heap_alloc_new (w.alloc (.cells #[v] 35)) (.cells #[.int .i64 q] 3)
    simpa using this
  · have := heap_alloc_new ((w.alloc (.cells #[v] 35)).alloc (.cells #[.int .i64 q] 3)) (.cells #[.bool b] 4)
    simpa using this
theorem vars_new (w : World) : Vars w.heap.size (.slice none 0 0) 0 false (((w.alloc (.cells #[.slice none 0 0] 35)).alloc (.cells #[.int .i64 0] 3)).alloc (.cells #[.bool false] 4)) := vars_lit w _ _ _

set_option maxRecDepth 100000 in
theorem settle_yes (s : Nat) (v : Value) (q : Int) (w : World) (h : Vars s v q true w) :
    CallsD Try.prog 51 #[.pointer (some ⟨s + 2, 0, none⟩), .pointer (some ⟨s, 0, none⟩), .pointer (some ⟨s + 1, 0, none⟩)] .returning w fun e u' w' =>
      u' = .returning ∧ (e = .returned (.tuple #[]) ∧ w = w') := by
  obtain ⟨c0, c1, c2⟩ := h.cells
  go_enter_d Try.func51, Try.ntmps51
  go_wp2
  go_end0
  first | exact ⟨rfl, rfl⟩ | exact rfl

set_option maxRecDepth 100000 in
theorem settle_no (s : Nat) (qa : Option Addr) (qn qc : Nat) (q : Int) (w : World) (h : Vars s (.slice qa qn qc) q false w) :
    CallsD Try.prog 51 #[.pointer (some ⟨s + 2, 0, none⟩), .pointer (some ⟨s, 0, none⟩), .pointer (some ⟨s + 1, 0, none⟩)] .returning w fun e u' w' =>
      u' = .returning ∧ (e = .returned (.tuple #[]) ∧ Vars s (.slice (some ⟨w.heap.size, 0, none⟩) 0 0) 0 false w' ∧ Below s w w') := by
  obtain ⟨c0, c1, c2⟩ := h.cells
  obtain ⟨f0, f1, f2⟩ := h.frozen
  have hlt := lt_of_block h.2.2
  have h1 : Vars s (.slice qa qn qc) q false (w.alloc (.cells #[] 3)) := h.below (B := w.heap.size) ((Below.refl _ _).alloc (Nat.le_refl _) _) (by omega)
  obtain ⟨d0, d1, d2⟩ := h1.cells
  obtain ⟨g0, g1, g2⟩ := h1.frozen
  go_enter_d Try.func51, Try.ntmps51
  go_wp2
  go_end0
  exact ⟨rfl, (h1.setV _).setQ _, (((Below.refl s w).alloc (by omega) _).setCell (p := ⟨s, 0, none⟩) (Nat.le_refl _) _).setCell (p := ⟨s + 1, 0, none⟩) (by simp) _⟩

/-- What the three variables hold when the call returns. -/
def Ends (base : Nat) (R : Option (List Int × Int)) (w : World) (v : Value) (q : Int) (b : Bool) (w' : World) : Prop := Decoded base R w (.returned (.tuple #[v, .int .i64 q, .bool b])) w'

set_option maxHeartbeats 2000000 in
set_option maxRecDepth 100000 in
theorem decode_impl_out (w : World) (a : Option Addr) (n c : Nat) (x cnt : Int) (hn : n ≤ 35184372088832) (h : ¬ ((0 ≤ cnt ∧ cnt ≤ 100) ∧ (0 ≤ x ∧ x ≤ n))) :
    Calls Try.prog 24 #[.slice a n c, .int .i64 x, .int .i64 cnt] w (Decoded w.heap.size none w) := by
  have hmf : ∀ (fn : Fn) (first cap : Array Value) (w : World), (Instr.makeFunc fn first cap).run Try.prog w = .ok (.func fn first cap) w := fun _ _ _ _ => rfl
  by_cases hc : 0 ≤ cnt ∧ cnt ≤ 100
  · have hx : x < 0 ∨ (n : Int) < x := by omega
    obtain ⟨c0, c1⟩ := hc
    clear h
    go_enter_defers Try.func24, Try.ntmps24
    go_wp2_with fail
    refine (Range.in_yes _ _ _ _ c0 c1).mono ?_
    rintro e w' ⟨rfl, rfl⟩
    go_wp2_with fail
    refine (Range.in_no _ _ _ _ hx).mono ?_
    rintro e w' ⟨rfl, rfl⟩
    go_wp2
    go_region
    go_wp2
    refine leaves_cons (f := 51) (args := #[.pointer (some ⟨w.heap.size + 2, 0, none⟩), .pointer (some ⟨w.heap.size, 0, none⟩), .pointer (some ⟨w.heap.size + 1, 0, none⟩)]) (by simp) (by simp [go_sem]) ?_
    have hv0 := (vars_new w).drew
    have hb0 : Below w.heap.size w (((w.alloc (.cells #[.slice none 0 0] 35)).alloc (.cells #[.int .i64 0] 3)).alloc (.cells #[.bool false] 4)).drew := ((((Below.refl w.heap.size w).alloc (Nat.le_refl _) _).alloc (by simp) _).alloc (by simp; omega) _).drew
    refine (settle_no w.heap.size none 0 0 0 _ hv0).mono ?_
    rintro e u' w2 ⟨rfl, rfl, hv, hbw⟩
    obtain ⟨d0, d1, d2⟩ := hv.cells
    simp [Leaves, settle, results, Try.results24, go_sem, d0, d1, d2]
    exact ⟨_, _, rfl, Own.nil _ _ _ _ _, Nat.le_refl _, Nat.zero_le _, hb0.trans hbw⟩
  · have hx : cnt < 0 ∨ (100 : Int) < cnt := by omega
    clear h hc
    go_enter_defers Try.func24, Try.ntmps24
    go_wp2_with fail
    refine (Range.in_no _ _ _ _ hx).mono ?_
    rintro e w' ⟨rfl, rfl⟩
    go_wp2
    go_region
    go_wp2
    refine leaves_cons (f := 51) (args := #[.pointer (some ⟨w.heap.size + 2, 0, none⟩), .pointer (some ⟨w.heap.size, 0, none⟩), .pointer (some ⟨w.heap.size + 1, 0, none⟩)]) (by simp) (by simp [go_sem]) ?_
    have hv0 := (vars_new w).drew
    have hb0 : Below w.heap.size w (((w.alloc (.cells #[.slice none 0 0] 35)).alloc (.cells #[.int .i64 0] 3)).alloc (.cells #[.bool false] 4)).drew := ((((Below.refl w.heap.size w).alloc (Nat.le_refl _) _).alloc (by simp) _).alloc (by simp; omega) _).drew
    refine (settle_no w.heap.size none 0 0 0 _ hv0).mono ?_
    rintro e u' w2 ⟨rfl, rfl, hv, hbw⟩
    obtain ⟨d0, d1, d2⟩ := hv.cells
    simp [Leaves, settle, results, Try.results24, go_sem, d0, d1, d2]
    exact ⟨_, _, rfl, Own.nil _ _ _ _ _, Nat.le_refl _, Nat.zero_le _, hb0.trans hbw⟩

set_option maxHeartbeats 4000000 in
set_option maxRecDepth 100000 in
theorem decode_impl_in (lo hi : Nat) (w : World) (a : Option Addr) (n c : Nat) (x : Int) (cnt : Nat) (zs : List Int) (R : Option (List Int × Int)) (hr : Row .u8 lo hi w a n zs) (hh : hi ≤ w.heap.size) (hn : n ≤ 35184372088832) (h0 : 0 ≤ x) (h1 : x ≤ n) (hc : cnt ≤ 100) (hR : Hid (dec zs cnt x [] = R)) :
    Calls Try.prog 24 #[.slice a n c, .int .i64 x, .int .i64 cnt] w (Decoded w.heap.size R w) := by
  have hmf : ∀ (fn : Fn) (first cap : Array Value) (w : World), (Instr.makeFunc fn first cap).run Try.prog w = .ok (.func fn first cap) w := fun _ _ _ _ => rfl
  obtain ⟨i0, hi0, hz0, hz1, hz2⟩ := info_parts Nts.info
  have HL := Lib.hid hr.len
  go_enter_defers Try.func24, Try.ntmps24
  go_wp2_with fail
  refine (Range.in_yes _ _ _ _ (by omega) (by omega)).mono ?_
  rintro e w' ⟨rfl, rfl⟩
  go_wp2_with fail
  refine (Range.in_yes _ _ _ _ (by omega) (by omega)).mono ?_
  rintro e w' ⟨rfl, rfl⟩
  go_wp2_with fail
  go_loopw [28] (fun i wr => ∃ (j : Nat) (qa : Option Addr) (qc : Nat) (y : Int) (acc : List Int), j ≤ cnt ∧ i = .int .i64 j ∧ 0 ≤ y ∧ y ≤ n ∧ Vars w.heap.size (.slice qa j qc) y false wr ∧ OwnI .i64 3 (w.heap.size + 3) wr (.slice qa j qc) j acc ∧ Hid (∀ z ∈ acc, (Lit.int .i64 z).wf = true) ∧ Hid (dec zs (cnt - j) y acc = R) ∧ Below w.heap.size w wr) (fun i _ => cnt - (intOf i).toNat)
  case atStart =>
    refine ⟨0, some ⟨w.heap.size + 3, 0, none⟩, 0, x, [], Nat.zero_le _, rfl, h0, h1, ?_, ?_, (by intro z hz; cases hz), hR, ?_⟩
    · exact (vars_lit w _ x false).below (B := w.heap.size + 3) ((Below.refl _ _).alloc (by simp) _) (Nat.le_refl _)
    · have := OwnI.made .i64 3 (base := w.heap.size + 3) (((w.alloc (.cells #[.slice (some ⟨w.heap.size + 3, 0, none⟩) 0 0] 35)).alloc (.cells #[.int .i64 x] 3)).alloc (.cells #[.bool false] 4)) (by simp)
      simpa using this
    · exact ((((Below.refl w.heap.size w).alloc (Nat.le_refl _) _).alloc (by simp) _).alloc (by simp; omega) _).alloc (by simp; omega) _
  case round =>
    obtain ⟨j, qa, qc, y, acc, hj, rfl, hy0, hy1, hv, ho, hwf, hD, hbw⟩ := hrel
    clear hR
    have hbs := hbw.size
    have hs3 := lt_of_block hv.2.2
    have hrk := hr.under hbw hh
    by_cases hlt : j < cnt
    · obtain ⟨c0, c1, c2⟩ := hv.cells
      cases hR1 : rdAt zs y with
      | none =>
        have HR1 := Lib.hid hR1
        have hD2 := hD.out
        rw [show cnt - j = (cnt - (j + 1)) + 1 by omega, dec_none _ _ hR1] at hD2
        subst hD2
        clear hR1
        go_wp2_with fail
        go_at_call 15
        refine (impl_none hrk (by omega) hn (by omega) HR1).mono ?_
        rintro e w1 ⟨rfl, hb1⟩
        have hs1 := hb1.size
        have hv1 := hv.below hb1 (by omega)
        obtain ⟨d0, d1, d2⟩ := hv1.cells
        obtain ⟨f0, f1, f2⟩ := hv1.frozen
        go_wp2
        go_region
        go_wp2
        refine leaves_cons (f := 51) (args := #[.pointer (some ⟨w.heap.size + 2, 0, none⟩), .pointer (some ⟨w.heap.size, 0, none⟩), .pointer (some ⟨w.heap.size + 1, 0, none⟩)]) (by simp) (by simp [go_sem]) ?_
        have hv4 := (((hv1.setV (.slice qa j qc)).setQ y).setB false).drew
        have hb4 := ((((hbw.trans (hb1.mono hbs)).setCell (p := ⟨w.heap.size, 0, none⟩) (Nat.le_refl _) (.slice qa j qc)).setCell (p := ⟨w.heap.size + 1, 0, none⟩) (by simp) (.int .i64 y)).setCell (p := ⟨w.heap.size + 2, 0, none⟩) (by simp) (.bool false)).drew
        refine (settle_no w.heap.size qa j qc y _ hv4).mono ?_
        rintro e u' w2 ⟨rfl, rfl, hv5, hb5⟩
        clear d0 d1 d2
        obtain ⟨d0, d1, d2⟩ := hv5.cells
        simp [Leaves, settle, results, Try.results24, go_sem, d0, d1, d2]
        exact ⟨_, _, rfl, Own.nil _ _ _ _ _, Nat.le_refl _, Nat.zero_le _, hb4.trans hb5⟩
      | some ml =>
        obtain ⟨m, l⟩ := ml
        obtain ⟨y0, m1, l0, l1, hyl⟩ := rdAt_some hR1
        have hyn : y + (l : Int) ≤ n := by have := HL.out; omega
        clear hyl
        have HR1 := Lib.hid hR1
        have hD2 := hD.out
        rw [show cnt - j = (cnt - (j + 1)) + 1 by omega, dec_some _ _ hR1] at hD2
        have HD2 := Lib.hid hD2
        clear hR1 hD2
        go_wp2_with fail
        go_at_call 15
        refine (impl_some hrk (by omega) hn (by omega) HR1).mono ?_
        rintro e w1 ⟨rfl, hb1⟩
        have hs1 := hb1.size
        have hv1 := hv.below hb1 (by omega)
        obtain ⟨d0, d1, d2⟩ := hv1.cells
        have ho1 := (ho.below hb1).alloc (.cells #[.int .i64 (m : Int)] 3)
        have hv2 := hv1.below (B := w1.heap.size) (w' := w1.alloc (.cells #[.int .i64 (m : Int)] 3)) ((Below.refl _ _).alloc (Nat.le_refl _) _) (by omega)
        go_wp2_with (at_builtin; refine wpList_append_one rfl _ _ 35 rfl (w.heap.size + 3) 3 i0 _ 8 Try.underlying35 hi0 hz0 hz1 hz2 rfl _ j acc rfl ho1 w1.heap.size 1 (m : Int) rfl ?c2 ?c3 ?c4 ?c5 ?_; (case c2 => rw [World.cell?_alloc_at _ _ _ _ rfl]; rfl); (case c3 => unfold maxLen; omega); (case c4 => omega); (case c5 => simp; omega); intro v' w' ho2 hb'; have hv3 := hv2.below hb' (Nat.le_refl _); obtain ⟨g0, g1, g2⟩ := hv3.cells; obtain ⟨f0, f1, f2⟩ := hv3.frozen; obtain ⟨qa', qc', rfl, _, _, _⟩ := ho2.own (small_wf hwf.out m m1))
        go_roundw
        case rel =>
          refine ⟨j + 1, qa', qc', y + l, acc ++ [(m : Int)], by omega, by go_num, by omega, hyn, (hv3.setV _).setQ _, ?_, small_wf hwf.out m m1, HD2, ?_⟩
          · exact ownsRow_setCell_below (ownsRow_setCell_below ho2 (by simp) _) (by simp) _
          · exact (((((hbw.trans (hb1.mono hbs)).alloc (by omega) _).trans (hb'.mono (by omega))).setCell (p := ⟨w.heap.size, 0, none⟩) (Nat.le_refl _) _).setCell (p := ⟨w.heap.size + 1, 0, none⟩) (by simp) _)
        case measure => simp [intOf]; omega
    · have hd : decide ((j : Int) < (cnt : Int)) = false := by simp; omega
      have hD2 := hD.out
      rw [show cnt - j = 0 by omega, dec_zero] at hD2
      subst hD2
      obtain ⟨d0, d1, d2⟩ := hv.cells
      obtain ⟨f0, f1, f2⟩ := hv.frozen
      go_wp2
      go_region
      go_wp2
      refine leaves_cons (f := 51) (args := #[.pointer (some ⟨w.heap.size + 2, 0, none⟩), .pointer (some ⟨w.heap.size, 0, none⟩), .pointer (some ⟨w.heap.size + 1, 0, none⟩)]) (by simp) (by simp [go_sem]) ?_
      have hv4 := (((hv.setV (.slice qa j qc)).setQ y).setB true).drew
      have hb4 := (((hbw.setCell (p := ⟨w.heap.size, 0, none⟩) (Nat.le_refl _) (.slice qa j qc)).setCell (p := ⟨w.heap.size + 1, 0, none⟩) (by simp) (.int .i64 y)).setCell (p := ⟨w.heap.size + 2, 0, none⟩) (by simp) (.bool true)).drew
      have ho4 : OwnI .i64 3 (w.heap.size + 3) _ (.slice qa j qc) j acc := World.ownsRow.drew (ownsRow_setCell_below (a := ⟨w.heap.size + 2, 0, none⟩) (ownsRow_setCell_below (a := ⟨w.heap.size + 1, 0, none⟩) (ownsRow_setCell_below (a := ⟨w.heap.size, 0, none⟩) ho (by simp) (.slice qa j qc)) (by simp) (.int .i64 y)) (by simp) (.bool true))
      refine (settle_yes w.heap.size (.slice qa j qc) y _ hv4).mono ?_
      rintro e u' w2 ⟨rfl, rfl, rfl⟩
      clear d0 d1 d2
      obtain ⟨d0, d1, d2⟩ := hv4.cells
      simp [Leaves, settle, results, Try.results24, go_sem, d0, d1, d2]
      have hlen := ho.len
      obtain ⟨qa2, qc2, he, g1, g2, g3⟩ := ho4.own hwf.out
      injection he with he1 _ he2
      subst he1 he2
      unfold Decoded
      simp only [hlen]
      exact ⟨_, _, rfl, g3.more (by omega) (Nat.le_refl _), g1, g2, hb4⟩

theorem decode_impl (lo hi : Nat) (w : World) (a : Option Addr) (n c : Nat) (x cnt : Int) (zs : List Int) (hr : Row .u8 lo hi w a n zs) (hh : hi ≤ w.heap.size) (hn : n ≤ 35184372088832) :
    Calls Try.prog 24 #[.slice a n c, .int .i64 x, .int .i64 cnt] w (Slice3 .i64 w.heap.size (dcL zs x cnt).length (dcL zs x cnt) (dcQ zs x cnt) (dcB zs x cnt) w) := by
  refine Calls.mono ?_ (fun _ _ h => decoded_law h)
  have hl := hr.len
  by_cases h : (0 ≤ cnt ∧ cnt ≤ 100) ∧ (0 ≤ x ∧ x ≤ n)
  · have h1 : dcR zs x cnt = dec zs cnt.toNat x [] := by unfold dcR; rw [hl]; exact if_pos h
    have h2 : ((cnt.toNat : Nat) : Int) = cnt := by omega
    have := decode_impl_in lo hi w a n c x cnt.toNat zs (dcR zs x cnt) hr hh hn (by omega) (by omega) (by omega) (by rw [h1]; rfl)
    rw [h2] at this
    exact this
  · have h1 : dcR zs x cnt = none := by unfold dcR; rw [hl]; exact if_neg h
    rw [h1]
    exact decode_impl_out w a n c x cnt hn h
end Go.Proofs.Ytplkkmjfglgecaa.Read