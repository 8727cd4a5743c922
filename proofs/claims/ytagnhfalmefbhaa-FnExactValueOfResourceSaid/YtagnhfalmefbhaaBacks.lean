/-
  slices.Backward over the versions of an address: its contract for a range over it. The program's copy of a resource. What the versions of one address answer at a tick: the program's method, a range over slices.Backward that returns.
  Conditions: as each theorem states them.
-/
import Derived.Test.YtagnhfalmefbhaaPasted
import Derived.RangeFuncNested
import Derived.RangeFuncBound
import Derived.RangeFuncCalls
import Derived.RangeFuncLeaves
import Derived.Shelf.Abstract
import Derived.Shelf.RegionOpen
import Derived.WalkKit
import Derived.OwnWalkIn
import Derived.TacticsInMore
import Derived.LoopNIn
import Derived.LoopIn
import Derived.Test.YtagnhfalmefbhaaRes
import Derived.Deep.RegionHeld3
namespace Go.Proofs.Ytagnhfalmefbhaa.Sites
open Go Go.RowKit Go.Shelf Go.Proofs.Ytagnhfalmefbhaa.Mem Go.Proofs.Ytagnhfalmefbhaa.Gen Go.Proofs.Ytagnhfalmefbhaa.Adr Go.Proofs.Ytagnhfalmefbhaa.Res
attribute [local go_sem] Oper.semAt_some

/-- The versions of a slice, cell by cell. -/
def Lined (n0 : Nat) (W : World) (A : Option Addr) (p : List TVersion) (a : Nat → Option Addr) (c : Nat → Nat) : Prop :=
  ∀ j, j < p.length → ∃ b off, A = some ⟨b, off, none⟩ ∧ b < n0 ∧ CVersion W b (off + j * 9) (p.getD j nVersion) (a j) (c j)
theorem Lined.below {n0 : Nat} {W W' : World} {A : Option Addr} {p : List TVersion} {a : Nat → Option Addr} {c : Nat → Nat} (h : Lined n0 W A p a c) (hb : Below n0 W W') : Lined n0 W' A p a c := fun j hj => by
  obtain ⟨b, off, e, hlt, hc⟩ := h j hj
  exact ⟨b, off, e, hlt, hc.keep (hb.block b hlt)⟩
theorem lined_of {lo hi : Nat} {w : World} {A : Option Addr} {c0 : Nat} {p : List TVersion} (h : Lies lo hi w (dVersion p) (.slice A p.length c0)) :
    ∃ a c, Lined hi w A p a c ∧ ∀ j, j < p.length → Lies lo hi w (ints (p.getD j nVersion).f2.f1) (.slice (a j) (p.getD j nVersion).f2.f1.length (c j)) := by
  have h1 : ∀ j, ∃ x : Option Addr × Nat, j < p.length → (∃ b off, A = some ⟨b, off, none⟩ ∧ b < hi ∧ CVersion w b (off + j * 9) (p.getD j nVersion) x.1 x.2) ∧ Lies lo hi w (ints (p.getD j nVersion).f2.f1) (.slice x.1 (p.getD j nVersion).f2.f1.length x.2) := fun j => by
    by_cases hj : j < p.length
    · obtain ⟨b, off, A5, c5, e, _, hbh, hc, q5, _⟩ := at_Version h hj
      exact ⟨(A5, c5), fun _ => ⟨⟨b, off, e, hbh, hc⟩, q5⟩⟩
    · exact ⟨(none, 0), fun h => absurd h hj⟩
  exact ⟨fun j => (Classical.choose (h1 j)).1, fun j => (Classical.choose (h1 j)).2, fun j hj => (Classical.choose_spec (h1 j) hj).1, fun j hj => (Classical.choose_spec (h1 j) hj).2⟩
/-- What a round is handed. -/
def enc (p : List TVersion) (a : Nat → Option Addr) (c : Nat → Nat) (x : Nat) : Array Value :=
  #[.int .i64 (x : Int), .agg #[.int .i64 (p.getD x nVersion).f0.f0, .int .i64 (p.getD x nVersion).f0.f1, .int .i64 (p.getD x nVersion).f0.f2, .int .i64 (p.getD x nVersion).f1, .int .i64 (p.getD x nVersion).f2.f0, .slice (a x) (p.getD x nVersion).f2.f1.length (c x), .int .i64 (p.getD x nVersion).f2.f2.f0, .int .i64 (p.getD x nVersion).f2.f2.f1, .int .i64 (p.getD x nVersion).f2.f2.f2]]
def downs (n k : Nat) : List Nat := (List.range k).map fun i => n - 1 - i
theorem downs_succ (n k : Nat) : downs n (k + 1) = downs n k ++ [n - 1 - k] := by simp [downs, List.range_succ]
theorem downs_len (n k : Nat) : (downs n k).length = k := by simp [downs]

set_option maxRecDepth 100000 in
set_option maxHeartbeats 4000000 in
theorem backward1_in (F : Fence) (n : Nat) (h78 : F.fn 104) (hro : F.round = none) (hn : 1 ≤ n) (l Bs n0 cap len : Nat) (A : Option Addr) (p : List TVersion) (a : Nat → Option Addr) (c : Nat → Nat) (hlen : p.length = len) (hsm : len ≤ 1048576) (hBs : Bs < n0)
    (J Jx : List { x : Nat // x < len } → World → Prop)
    (hY : ∀ pre (x : { x : Nat // x < len }) W, J pre W → pre.length < len → YieldAt F (n - 1) Try.prog l (enc p a c x.1) W fun e W' =>
      (e = .returned (.bool true) ∧ J (pre ++ [x]) W' ∧ Below n0 W W') ∨ (e = .returned (.bool false) ∧ Jx (pre ++ [x]) W'))
    (W : World) (hc0 : W.cell? ⟨Bs, 0, none⟩ = some (.slice A len cap)) (hL : Lined n0 W A p a c) (h0 : J [] W) :
    CallsIn F n Try.prog 104 #[.func (.yield l) #[] #[], .pointer (some ⟨Bs, 0, none⟩)] W fun e W' => (∃ v, e = .returned v) ∧
      ((∃ ys : List { x : Nat // x < len }, ys.map (·.1) = downs len len ∧ J ys W') ∨ (∃ pre : List { x : Nat // x < len }, (∃ k, k ≤ len ∧ pre.map (·.1) = downs len k) ∧ Jx pre W')) := by
  have HL := Lib.hid hlen
  clear hlen
  refine callsIn_of_wp Try.func104 rfl h78 ?_ hro
  simp only [Try.ntmps104, List.size_toArray, List.length_cons, List.length_nil, Nat.reduceAdd, Nat.reduceSub, Array.replicate_succ, Array.replicate_zero, List.push_toArray, List.append_toArray, List.nil_append, List.cons_append]
  have hw0 : IntKind.wrap .i64 ((len : Int) - 1) = (len : Int) - 1 := by rw [IntKind.wrap_i64]; omega
  gi_wp2
  gi_loopw [3] (fun i wr => ∃ (k : Nat) (z : Int) (pre : List { x : Nat // x < len }), k ≤ len ∧ z = (len : Int) - 1 - k ∧ i = .int .i64 z ∧ Hid (pre.map (·.1) = downs len k) ∧ J pre wr ∧ Below n0 W wr)
    (fun i _ => (intOf i + 1).toNat)
  case atStart => exact ⟨0, (len : Int) - 1, [], Nat.zero_le _, by omega, rfl, by simp [Hid, downs], h0, Below.refl _ _⟩
  case round =>
    obtain ⟨k, z, pre, hk, hz, rfl, hpre, hJs, hb⟩ := hrel
    have hcB : wr.cell? ⟨Bs, 0, none⟩ = some (.slice A len cap) := (hb.cell (p := ⟨Bs, 0, none⟩) hBs).trans hc0
    by_cases hlt : k < len
    · obtain ⟨m, hm⟩ : ∃ m, m = len - 1 - k := ⟨_, rfl⟩
      have hml : m < len := by omega
      have hzm : z = (m : Int) := by omega
      have hpl : pre.length < len := by
        have := congrArg List.length hpre.out
        rw [List.length_map, downs_len] at this
        omega
      have hge : decide ((0 : Int) ≤ (m : Int)) = true := by simp
      have hw1 : IntKind.wrap .i64 ((m : Int) - 1) = (m : Int) - 1 := by rw [IntKind.wrap_i64]; omega
      have hmk : (m : Int) - 1 = (len : Int) - 1 - ((k + 1 : Nat) : Int) := by omega
      have HM := Lib.hid hm
      subst hzm
      clear hz hm
      obtain ⟨b, off, rfl, hlb, hcv⟩ := (hL.below hb) m (by rw [HL.out]; exact hml)
      obtain ⟨fn, tmps, assign, body, hy, hR⟩ := hY pre ⟨m, hml⟩ wr hJs hpl
      simp only [enc] at hy
      obtain ⟨V, hV⟩ : ∃ V, p.getD m nVersion = V := ⟨_, rfl⟩
      rw [hV] at hy hcv
      clear hV
      obtain ⟨c0, c1, c2, c3, c4, c5, c6, c7, c8⟩ := hcv.all
      have hpn : (pre ++ [(⟨m, hml⟩ : { x : Nat // x < len })]).map (fun x => x.1) = downs len (k + 1) := by rw [List.map_append, hpre.out, downs_succ, ← HM.out]; rfl
      have HP := Lib.hid hpn
      clear hpn hcv
      gi_wp2
      refine hR.mono ?_
      rintro e W3 (⟨rfl, hJ3, hk3⟩ | ⟨rfl, hJx3⟩)
      · gi_wp2
        go_roundw
        case rel => exact ⟨k + 1, (m : Int) - 1, pre ++ [⟨m, hml⟩], by omega, hmk, by go_num, HP, hJ3, hb.trans hk3⟩
        case measure => simp [intOf]; omega
      · gi_wp2
        refine bodyPost_ret (results_none rfl _ _ _) rfl ?_
        exact ⟨⟨_, rfl⟩, .inr ⟨_, ⟨k + 1, by omega, HP.out⟩, hJx3⟩⟩
    · obtain rfl : k = len := by omega
      have hzm : z = -1 := by omega
      subst hzm
      clear hz
      gi_wp2
      go_end0
      exact ⟨⟨_, rfl⟩, .inl ⟨_, hpre.out, hJs⟩⟩

set_option maxHeartbeats 1000000 in
theorem backward_in (F : Fence) (n : Nat) (h65 : F.fn 100) (hro : F.round = none) (a : Option Addr) (len cap : Nat) (w : World) :
    CallsIn F n Try.prog 100 #[.slice a len cap] w fun e w' => e = .returned (.func (.func 104) #[] #[.pointer (some ⟨w.heap.size, 0, none⟩)]) ∧ w' = w.alloc (.cells #[.slice a len cap] 130) := by
  refine callsIn_of_wp Try.func100 rfl h65 ?_ hro
  simp only [Try.ntmps100, List.size_toArray, List.length_cons, List.length_nil, Nat.reduceAdd, Nat.reduceSub, Array.replicate_succ, Array.replicate_zero, List.push_toArray, List.append_toArray, List.nil_append, List.cons_append]
  gi_wp2
  go_ret
  exact ⟨rfl, rfl⟩

theorem backward_stops (F : Fence) (n : Nat) (h78 : F.fn 104) (hro : F.round = none) (hn : 1 ≤ n) (Bs cap len : Nat) (A : Option Addr) (p : List TVersion) (a : Nat → Option Addr) (c : Nat → Nat) (hlen : p.length = len) (hsm : len ≤ 1048576) (w : World) (hBs : Bs < w.heap.size)
    (hc0 : w.cell? ⟨Bs, 0, none⟩ = some (.slice A len cap)) (hL : Lined w.heap.size w A p a c) :
    SeqStopsK F n Try.prog 104 #[.pointer (some ⟨Bs, 0, none⟩)] (fun x : { x : Nat // x < len } => enc p a c x.1) (Below w.heap.size)
      (fun ys => ys.map (·.1) = downs len len) (fun pre => ∃ k, k ≤ len ∧ pre.map (·.1) = downs len k) len w := fun l J Jx W hW _ _ hY h0 =>
  backward1_in F n h78 hro hn l Bs w.heap.size cap len A p a c hlen hsm hBs J Jx hY W ((hW.cell (p := ⟨Bs, 0, none⟩) hBs).trans hc0) (hL.below hW) h0
end Go.Proofs.Ytagnhfalmefbhaa.Sites
namespace Go.Proofs.Ytagnhfalmefbhaa.Res
open Go Go.RowKit Go.Proofs.Ytagnhfalmefbhaa.Mem Go.Proofs.Ytagnhfalmefbhaa.Adr

set_option maxHeartbeats 1000000 in
set_option maxRecDepth 100000 in
theorem clone_ints (lo hi : Nat) (w : World) (a : Option Addr) (n c : Nat) (zs : List Int) (hr : Row .i64 lo hi w a n zs) (hn : n ≤ 1048576) :
    Calls Try.prog 105 #[.slice a n c] w (Slice .i64 w.heap.size n zs w) := by
  obtain ⟨i0, hi0, hz0, hz1, hz2⟩ := info_parts Nts.info
  rcases a with _ | ad
  · have hm : n = 0 := by
      rcases Nat.eq_zero_or_pos n with h0 | h0
      · exact h0
      · obtain ⟨b, off, h, _⟩ := hr.here h0; cases h
    subst hm
    obtain rfl := List.eq_nil_of_length_eq_zero hr.len
    have he : ∀ w : World, (binOp .eql 25 (.slice none 0 c) (.slice none 0 0)).run Try.prog w = .ok (.bool true) w := fun _ => rfl
    go_enter Try.func105, Try.ntmps105
    go_wp2
    go_ret
    exact ⟨none, 0, rfl, Own.nil _ _ _ _ _, Nat.le_refl _, Nat.zero_le _, Below.refl _ _⟩
  · have hvE : OwnI .i64 3 w.heap.size (w.alloc (.cells #[] 3)) (.slice (some ⟨w.heap.size, 0, none⟩) 0 0) 0 [] := OwnI.made .i64 3 (base := w.heap.size) w (Nat.le_refl _)
    have hB : Below w.heap.size w (w.alloc (.cells #[] 3)) := by repeat' (first | exact Below.refl _ _ | assumption | refine Below.setCell ?_ ?_ _ | refine Below.alloc ?_ ?_ _ | refine Adr.below_drewN ?_ _ | refine Below.drew ?_ | exact Nat.le_refl _ | omega | (dsimp only; omega) | refine Adr.le_alloc ?_ | refine Adr.le_set ?_ | refine Adr.le_drewN ?_ | refine Adr.le_drew ?_)
    have hrE := hr.below hB
    have he : ∀ w : World, (binOp .eql 25 (.slice (some ad) n c) (.slice none 0 0)).run Try.prog w = .ok (.bool false) w := fun _ => rfl
    go_enter Try.func105, Try.ntmps105
    go_wp2_with (at_builtin; refine wpList_append_row rfl _ _ 25 rfl w.heap.size 3 i0 _ 8 Try.underlying25 hi0 hz0 hz1 hz2 rfl _ 0 [] rfl hvE lo hi (some ad) n c zs rfl hrE ?c3 ?c4 ?c5 ?_; (case c3 => unfold maxLen; omega); (case c4 => omega); (case c5 => exact le_alloc (Nat.le_refl _)); intro v' w' hv hb)
    go_wp2
    go_ret
    simp only [Nat.zero_add, List.nil_append] at hv
    obtain ⟨a', c', rfl, h1, h2, h3⟩ := hv.own hr.wf
    exact ⟨a', c', rfl, h3, h1, h2, hB.trans hb⟩

set_option maxHeartbeats 1000000 in
set_option maxRecDepth 100000 in
theorem copy_res (lo hi : Nat) (k h p q : Int) (w : World) (a : Option Addr) (n c : Nat) (zs : List Int) (hr : Row .i64 lo hi w a n zs) (hn : n ≤ 1048576) :
    Calls Try.prog 101 #[(Value.agg #[Value.int IntKind.i64 (k), Value.slice (a) (n) (c), Value.int IntKind.i64 (h), Value.int IntKind.i64 (p), Value.int IntKind.i64 (q)])] w (Copied w.heap.size k h p q n zs w) := by
  obtain ⟨O1, hO1⟩ : ∃ O, O = Obj.cells #[Value.int .i64 k, .slice a n c, .int .i64 h, .int .i64 p, .int .i64 q] 39 (0, 0) := ⟨_, rfl⟩
  obtain ⟨O2, hO2⟩ : ∃ O, O = Obj.cells #[Value.int .i64 0, .slice none 0 0, .int .i64 0, .int .i64 0, .int .i64 0] 39 (0, 0) := ⟨_, rfl⟩
  have hB1 : Below w.heap.size w ((w.alloc O1).alloc O2) := by repeat' (first | exact Below.refl _ _ | assumption | refine Below.setCell ?_ ?_ _ | refine Below.alloc ?_ ?_ _ | refine Adr.below_drewN ?_ _ | refine Below.drew ?_ | exact Nat.le_refl _ | omega | (dsimp only; omega) | refine Adr.le_alloc ?_ | refine Adr.le_set ?_ | refine Adr.le_drewN ?_ | refine Adr.le_drew ?_)
  have hS1 : ((w.alloc O1).alloc O2).heap.size = w.heap.size + 2 := by simp only [size_alloc]
  have qA : Quint 39 w.heap.size (.int .i64 k) (.slice a n c) (.int .i64 h) (.int .i64 p) (.int .i64 q) ((w.alloc O1).alloc O2) := by rw [hO1]; exact (Quint.new _ _ _ _ _ _ w).alloc _
  have qR : Quint 39 (w.heap.size + 1) (.int .i64 0) (.slice none 0 0) (.int .i64 0) (.int .i64 0) (.int .i64 0) ((w.alloc O1).alloc O2) := by have := Quint.new 39 (.int .i64 0) (.slice none 0 0) (.int .i64 0) (.int .i64 0) (.int .i64 0) (w.alloc O1); rw [size_alloc] at this; rw [hO2]; exact this
  have hT := clone_ints lo hi ((w.alloc O1).alloc O2) a n c zs (hr.below hB1) hn
  subst hO1 hO2
  obtain ⟨a0, a1, a2, a3, a4⟩ := qA.cells
  go_enter Try.func101, Try.ntmps101
  go_wp2_with fail
  go_at_call 105
  refine hT.mono ?_
  rintro e w1 ⟨a', c', rfl, hO, hnc, hcm, hb1⟩
  have hB2 := hB1.trans (hb1.mono hB1.size)
  have hS2 := hb1.size
  have qA1 := qA.below hb1
  have qR1 := qR.below hb1
  rw [hS1] at hS2 hO
  clear hT a0 a1 a2 a3 a4 hr hb1 qA qR hB1
  obtain ⟨a0, a1, a2, a3, a4⟩ := qA1.cells
  obtain ⟨f0, f1, f2, f3, f4⟩ := qA1.frozen
  obtain ⟨fr0, fr1, fr2, fr3, fr4⟩ := qR1.frozen
  have qA2 := qA1.set1 (.slice a' n c')
  have qR2 := qR1.other (a := ⟨w.heap.size, 1, none⟩) (.slice a' n c') (by simp)
  obtain ⟨x0, x1, x2, x3, x4⟩ := qA2.cells
  obtain ⟨r0, r1, r2, r3, r4⟩ := qR2.cells
  obtain ⟨g0, g1, g2, g3, g4⟩ := (((((qR2.set0 (.int .i64 k)).set1 (.slice a' n c')).set2 (.int .i64 h)).set3 (.int .i64 p)).set4 (.int .i64 q)).cells
  go_wp2
  refine bodyPost_ret (v := (Value.agg #[Value.int IntKind.i64 (k), Value.slice (a') (n) (c'), Value.int IntKind.i64 (h), Value.int IntKind.i64 (p), Value.int IntKind.i64 (q)])) (by simp [results, Try.results101, go_sem, g0, g1, g2, g3, g4]) rfl ⟨a', c', rfl, (hO.zone (lo' := 0) (hi' := w.heap.size + 2) ?_ (Or.inr (Nat.le_refl _))).more (by omega) (by simp only [size_set]; omega), hnc, hcm, ?_⟩
  · iterate 6 (refine Zone.setCell ?_ ⟨by omega, by omega⟩ _)
    exact Zone.refl _ _ _
  · iterate 6 (refine Below.setCell ?_ (by dsimp only; omega) _)
    exact hB2
end Go.Proofs.Ytagnhfalmefbhaa.Res
namespace Go.Proofs.Ytagnhfalmefbhaa.Sites
open Go Go.RowKit Go.Shelf Go.Proofs.Ytagnhfalmefbhaa.Mem Go.Proofs.Ytagnhfalmefbhaa.Gen Go.Proofs.Ytagnhfalmefbhaa.Adr Go.Proofs.Ytagnhfalmefbhaa.Res
attribute [local go_sem] Oper.semAt_some

theorem late_none {p : List TVersion} {t : Int} (h : ∀ i, i < p.length → decide ((p.getD i nVersion).f1 ≤ t) = false) : answerIn p t = noneR := by
  have h1 : ∀ k, k ≤ p.length → answerIn (p.take k) t = noneR := by
    intro k
    induction k with
    | zero => intro _; rfl
    | succ k ih => intro hk; rw [back_no (by omega) (h k (by omega))]; exact ih (by omega)
  have := h1 p.length (Nat.le_refl _)
  rwa [List.take_length] at this
theorem late_hit {p : List TVersion} {t : Int} {i : Nat} (hi : i < p.length) (h0 : decide ((p.getD i nVersion).f1 ≤ t) = true) (h : ∀ m, i < m → m < p.length → decide ((p.getD m nVersion).f1 ≤ t) = false) : answerIn p t = (p.getD i nVersion).f2 := by
  have h1 : ∀ k, i + 1 + k ≤ p.length → answerIn (p.take (i + 1 + k)) t = (p.getD i nVersion).f2 := by
    intro k
    induction k with
    | zero => intro _; exact back_yes hi h0
    | succ k ih => intro hk; rw [show i + 1 + (k + 1) = (i + 1 + k) + 1 by omega, back_no (by omega) (h _ (by omega) (by omega))]; exact ih (by omega)
  have := h1 (p.length - (i + 1)) (by omega)
  rwa [show i + 1 + (p.length - (i + 1)) = p.length by omega, List.take_length] at this
theorem blk_own {β : Type} (B : Nat) (T : TypeId) (f : β → List Value) : Own (fun s W => Blk T B (f s) W) := fun s X Y row hs hg hrow =>
  (hg.block B hs.lt (fun e' => by obtain ⟨o, ho, hc⟩ := hrow B e'.symm; rw [show X.heap[B]? = _ from hs] at ho; cases ho; cases hc)).trans hs
theorem own_own {β : Type} (lo hi : Nat) (a : β → Option Addr) (n : β → Nat) (zs : β → List Int) : Own (fun s W => Mem.Own .i64 lo hi W (a s) (n s) (zs s)) := fun s X Y row hs hg hrow =>
  ⟨hs.len, hs.wf, fun hn => by
    obtain ⟨b, off, e1, e2, e3, e4⟩ := hs.here hn
    have e : Y.heap[b]? = X.heap[b]? := hg.block b (Mem.cell_lt (e4 0 hn).1) (fun e' => by
      obtain ⟨o, ho, hc⟩ := hrow b e'.symm
      have h0 := (e4 0 hn).1
      unfold World.cell? at h0
      simp only [ho] at h0
      cases o <;> simp_all [Obj.isCells])
    exact ⟨b, off, e1, e2, e3, fun j hj => ⟨by rw [Mem.cell_of_heap e]; exact (e4 j hj).1, by rw [Mem.frozen_of_heap e]; exact (e4 j hj).2⟩⟩⟩
theorem from_below {B : Nat} {W W' : World} (h : Below W.heap.size W W') : KeepsFrom B W W' := ⟨h.size, fun k _ _ hk _ => (h.block k (Array.getElem?_eq_some_iff.1 hk).1).trans hk⟩
theorem downs_at {len k : Nat} (hk : k ≤ len) {m : Nat} (hm : len - k ≤ m) (hml : m < len) : m ∈ downs len k := by
  simp only [downs, List.mem_map, List.mem_range]
  exact ⟨len - 1 - m, by omega, by omega⟩

set_option maxRecDepth 100000 in
set_option maxHeartbeats 8000000 in
theorem past_answer (lo hi : Nat) (w : World) (A : Option Addr) (cap : Nat) (p : List TVersion) (h : Lies lo hi w (dVersion p) (.slice A p.length cap)) (hh : hi ≤ w.heap.size) (hsm : p.length ≤ 1048576) (hm : ∀ i, i < p.length → (p.getD i nVersion).f2.f1.length ≤ 1048576) (t : Int) :
    Calls Try.prog 95 #[.slice A p.length cap, .int .i64 t] w fun e w' => ∃ (a : Option Addr) (d : Nat), e = .returned (.agg #[.int .i64 (answerIn p t).f0, .slice a (answerIn p t).f1.length d, .int .i64 (answerIn p t).f2.f0, .int .i64 (answerIn p t).f2.f1, .int .i64 (answerIn p t).f2.f2]) ∧ OwnD w.heap.size w'.heap.size w' (ints (answerIn p t).f1) (.slice a (answerIn p t).f1.length d) ∧ Below w.heap.size w w' := by
  obtain ⟨len, hlen⟩ : ∃ len, p.length = len := ⟨_, rfl⟩
  obtain ⟨a, c, hL, hB5⟩ := lined_of h
  have hnone := late_none (p := p) (t := t)
  have hhit := fun i => late_hit (p := p) (t := t) (i := i)
  obtain ⟨R, hR⟩ : ∃ R, answerIn p t = R := ⟨_, rfl⟩
  rw [hR] at hnone ⊢
  simp only [hR] at hhit
  rw [hlen] at h hsm hm hB5 hnone hhit ⊢
  have HNONE := Lib.hid hnone
  have HHIT := Lib.hid hhit
  clear hnone hhit hR
  obtain ⟨O1, hO1⟩ : ∃ O, O = Obj.cells #[Value.int .i64 t] 3 (0, 0) := ⟨_, rfl⟩
  obtain ⟨O2, hO2⟩ : ∃ O, O = Obj.cells (resCells ⟨0, [], ⟨0, 0, 0⟩⟩ none 0).toArray 39 (0, 0) := ⟨_, rfl⟩
  obtain ⟨O3, hO3⟩ : ∃ O, O = Obj.cells #[Value.slice A len cap] 130 (0, 0) := ⟨_, rfl⟩
  obtain ⟨W0, hW0⟩ : ∃ W0, ((w.alloc O1).alloc O2).alloc O3 = W0 := ⟨_, rfl⟩
  have hB0 : Below w.heap.size w W0 := by rw [← hW0]; repeat' (first | exact Below.refl _ _ | assumption | refine Below.setCell ?_ ?_ _ | refine Below.alloc ?_ ?_ _ | refine Gen.gbelow_drewN ?_ _ | refine Below.drew ?_ | exact Nat.le_refl _ | omega | (dsimp only; omega) | refine Gen.gle_alloc ?_ | refine Gen.gle_set ?_ | refine Gen.gle_drewN ?_ | refine Gen.gle_drew ?_)
  have hS0 : W0.heap.size = w.heap.size + 3 := by rw [← hW0]; simp only [gsize_alloc]
  have bT : Boxed W0 w.heap.size 3 (.int .i64 t) := by rw [← hW0, hO1]; exact ((Boxed.new w _ _).alloc _).alloc _
  have bR : Blk 39 (w.heap.size + 1) (resCells ⟨0, [], ⟨0, 0, 0⟩⟩ none 0) W0 := by rw [← hW0]; have := (Blk.new 39 (resCells ⟨0, [], ⟨0, 0, 0⟩⟩ none 0) (w.alloc O1)).alloc O3; rw [gsize_alloc] at this; rw [hO2]; exact this
  have bS : Boxed W0 (w.heap.size + 2) 130 (.slice A len cap) := by rw [← hW0, hO3]; have := Boxed.new ((w.alloc O1).alloc O2) 130 (.slice A len cap); simp only [gsize_alloc] at this; exact this
  have hseq := backward_stops Fence.wide 3 trivial rfl (by omega) (w.heap.size + 2) cap len A p a c hlen hsm W0 (by omega) bS.cell (fun j hj => by
    obtain ⟨b, off, e, hb, hc⟩ := hL j hj
    exact ⟨b, off, e, by omega, hc.keep (hB0.block b (by omega))⟩)
  have hB5' : ∀ j, j < len → Lies lo hi W0 (ints (p.getD j nVersion).f2.f1) (.slice (a j) (p.getD j nVersion).f2.f1.length (c j)) := fun j hj => (hB5 j hj).under hB0 hh
  have HB5 := Lib.hid hB5'
  have HM := Lib.hid hm
  clear hB5 hB5' hm hL h hlen
  refine (callsIn_wide (n := 4)).1 ?_
  refine callsIn_of_wp_marks Try.func95 rfl trivial ?_ rfl
  simp only [Try.ntmps95, List.size_toArray, List.length_cons, List.length_nil, Nat.reduceAdd, Nat.reduceSub, Array.replicate_succ, Array.replicate_zero, List.push_toArray, List.append_toArray, List.nil_append, List.cons_append]
  gi_wp2_with (refine ⟨trivial, ?_⟩; gi_at_call 100; refine (backward_in Fence.wide 3 trivial rfl _ _ _ _).mono ?_; rintro e w' ⟨rfl, rfl⟩)
  have hW0' : ((w.alloc (.cells #[.int .i64 t] 3)).alloc (.cells #[.int .i64 0, .slice none 0 0, .int .i64 0, .int .i64 0, .int .i64 0] 39)).alloc (.cells #[.slice A len cap] 130) = W0 := by rw [← hW0, hO1, hO2, hO3]; rfl
  rw [hW0']
  clear hW0 hW0' hO1 hO2 hO3 O1 O2 O3 bS
  have HR := Lib.hid (show ∀ i, i < len → (p.getD i nVersion).f2.f1.length ≤ 1048576 from HM.out)
  refine wpIn_rangeFunc_ownH rfl (by omega) (gf := 104) (lb := #[.pointer (some ⟨w.heap.size + 2, 0, none⟩)]) rfl trivial (enters_of Try.func104 (by kernel_rfl) rfl)
    hseq belowK_t (belowK_b (by omega)) (Below.refl _ _) (fun _ => rfl)
    (fun pre W => ((∀ x ∈ pre, decide ((p.getD x.1 nVersion).f1 ≤ t) = false) ∧ Boxed W w.heap.size 3 (.int .i64 t) ∧ Blk 39 (w.heap.size + 1) (resCells ⟨0, [], ⟨0, 0, 0⟩⟩ none 0) W) ∧ Below W0.heap.size W0 W)
    (fun cd pre W => ((cd = .ret ∧ ∃ ini last, pre = ini ++ [last] ∧ (∀ x ∈ ini, decide ((p.getD x.1 nVersion).f1 ≤ t) = false) ∧ decide ((p.getD last.1 nVersion).f1 ≤ t) = true ∧ ∃ aa d hi', Blk 39 (w.heap.size + 1) (resCells (p.getD last.1 nVersion).f2 aa d) W ∧ Mem.Own .i64 (w.heap.size + 3) hi' W aa (p.getD last.1 nVersion).f2.f1.length (p.getD last.1 nVersion).f2.f1 ∧ (p.getD last.1 nVersion).f2.f1.length ≤ d ∧ d ≤ maxLen ∧ hi' ≤ W.heap.size)) ∧ Below w.heap.size w W)
    (OwnFrom.and (fun s X Y row hs hg hr => ⟨hs.1, boxed_own _ _ (fun (_ : Unit) => Value.int .i64 t) () X Y row hs.2.1 hg (fun r e => (hr r e).2), blk_own _ _ (fun (_ : Unit) => resCells ⟨0, [], ⟨0, 0, 0⟩⟩ none 0) () X Y row hs.2.2 hg (fun r e => (hr r e).2)⟩) (ownFrom_below (Nat.le_refl _) (Nat.le_refl _)))
    (fun cd => OwnFrom.and (fun s X Y row hs hg hr => by
      obtain ⟨e0, ini, last, e1, e2, e3, aa, d, hi', e4, e5, e6, e7, e8⟩ := hs
      exact ⟨e0, ini, last, e1, e2, e3, aa, d, hi', blk_own _ _ (fun (_ : Unit) => resCells (p.getD last.1 nVersion).f2 aa d) () X Y row e4 hg (fun r e => (hr r e).2), own_own _ _ (fun (_ : Unit) => aa) (fun _ => _) (fun _ => _) () X Y row e5 hg (fun r e => (hr r e).2), e6, e7, Nat.le_trans e8 hg.size⟩) (ownFrom_below (by omega) (by omega)))
    ⟨⟨by simp, bT, bR⟩, Below.refl _ _⟩
    (fun x a' W => ∃ Bx, W0.heap.size ≤ Bx ∧ Blk 103 Bx (verCells (p.getD x.1 nVersion) (a x.1) (c x.1)) W ∧ a' = { tmps := #[.slice A len cap, .int .i64 t, undef, .pointer (some ⟨w.heap.size, 0, none⟩), .pointer (some ⟨w.heap.size + 1, 0, none⟩), undef, .pointer (some ⟨Bx, 0, none⟩), .slice A len cap, .func (.func 104) #[] #[.pointer (some ⟨w.heap.size + 2, 0, none⟩)], .int .i64 (x.1 : Int), .agg (verCells (p.getD x.1 nVersion) (a x.1) (c x.1)).toArray, undef, undef, undef, undef, undef, undef, undef, undef], defers := [] })
    (fun x a' _ X Y row hs hg hr => by obtain ⟨Bx, h1, h2, h3⟩ := hs; exact ⟨Bx, h1, blk_own _ _ (fun (_ : Unit) => verCells (p.getD x.1 nVersion) (a x.1) (c x.1)) () X Y row h2 hg (fun r e => (hr r e).2), h3⟩)
    ?assign ?body ?done ?stop
  case assign =>
    rintro l pre x W K ⟨⟨h1, bT1, bR1⟩, hB1⟩ hK
    have hz := hB1.size
    have hK' := hK _ _ ((KeepsOthers.alloc W (.cells (verCells (p.getD x.1 nVersion) (a x.1) (c x.1)).toArray 103)).from _) ((Below.refl _ W).alloc hz _) ⟨⟨h1, bT1.alloc _, bR1.alloc _⟩, hB1.alloc hz _⟩ ⟨W.heap.size, hz, Blk.new _ _ W, rfl⟩
    simp only [enc]
    obtain ⟨V, hV⟩ : ∃ V, p.getD x.1 nVersion = V := ⟨_, rfl⟩
    rw [hV] at hK' ⊢
    simp only [verCells] at hK'
    clear hK hV
    gi_wp2
    exact hK'
  case body =>
    rintro l pre x a' W hl hlr ⟨⟨h1, bT1, bR1⟩, hB1⟩ ⟨Bx, hBx, bX, rfl⟩ hlt
    have hz := hB1.size
    obtain ⟨V, hV⟩ : ∃ V, p.getD x.1 nVersion = V := ⟨_, rfl⟩
    have hLV := HB5.out x.1 x.2
    have hmV := HM.out x.1 x.2
    rw [hV] at hLV hmV bX ⊢
    obtain ⟨hrow, _, _⟩ := (hLV.below hB1).row'
    have cT := bT1.cell
    have x3 : W.cell? ⟨Bx, 3, none⟩ = some (.int .i64 V.f1) := bX.at rfl
    have x4 : W.cell? ⟨Bx, 4, none⟩ = some (.int .i64 V.f2.f0) := bX.at rfl
    have x5 : W.cell? ⟨Bx, 5, none⟩ = some (.slice (a x.1) V.f2.f1.length (c x.1)) := bX.at rfl
    have x6 : W.cell? ⟨Bx, 6, none⟩ = some (.int .i64 V.f2.f2.f0) := bX.at rfl
    have x7 : W.cell? ⟨Bx, 7, none⟩ = some (.int .i64 V.f2.f2.f1) := bX.at rfl
    have x8 : W.cell? ⟨Bx, 8, none⟩ = some (.int .i64 V.f2.f2.f2) := bX.at rfl
    simp only [verCells]
    by_cases hit : V.f1 ≤ t
    · have hd : decide (V.f1 ≤ t) = true := by simpa using hit
      have hC := copy_res lo hi V.f2.f0 V.f2.f2.f0 V.f2.f2.f1 V.f2.f2.f2 W (a x.1) V.f2.f1.length (c x.1) V.f2.f1 hrow hmV
      gi_wp2_with (refine ⟨trivial, ?_⟩; gi_at_call 101; refine (CallsIn.inRound l (callsIn_wide.2 hC)).mono ?_; rintro e w1 ⟨x1, y1, rfl, ho1, hk1, hk2, hb1⟩; have bR2 := bR1.below hb1; have r0 : w1.cell? ⟨w.heap.size + 1, 0, none⟩ = some (.int .i64 0) := bR2.at rfl; have r1 : w1.cell? ⟨w.heap.size + 1, 1, none⟩ = some (.slice none 0 0) := bR2.at rfl; have r2 : w1.cell? ⟨w.heap.size + 1, 2, none⟩ = some (.int .i64 0) := bR2.at rfl; have r3 : w1.cell? ⟨w.heap.size + 1, 3, none⟩ = some (.int .i64 0) := bR2.at rfl; have r4 : w1.cell? ⟨w.heap.size + 1, 4, none⟩ = some (.int .i64 0) := bR2.at rfl; have p0 := bR2.free 0; have p1 := bR2.free 1; have p2 := bR2.free 2; have p3 := bR2.free 3; have p4 := bR2.free 4)
      have qF := ((((bR2.set 0 (.int .i64 V.f2.f0)).set 1 (.slice x1 V.f2.f1.length y1)).set 2 (.int .i64 V.f2.f2.f0)).set 3 (.int .i64 V.f2.f2.f1)).set 4 (.int .i64 V.f2.f2.f2)
      have hz1 := hb1.size
      refine ⟨?_, ⟨rfl, pre, x, rfl, h1, by rw [hV]; exact hd, x1, y1, w1.heap.size, by rw [hV]; exact qF, ?_, by rw [hV]; exact hk1, hk2, by simp only [gsize_set]; exact Nat.le_refl _⟩, ?_⟩
      · exact (((((from_below hb1).trans ((KeepsOthers.setCell _ _ _).from _)).trans ((KeepsOthers.setCell _ _ _).from _)).trans ((KeepsOthers.setCell _ _ _).from _)).trans ((KeepsOthers.setCell _ _ _).from _)).trans ((KeepsOthers.setCell _ _ _).from _)
      · rw [hV]
        refine (ho1.more (by omega) (Nat.le_refl _)).zone (lo' := 0) (hi' := w.heap.size + 3) ?_ (Or.inr (Nat.le_refl _))
        iterate 5 (refine Zone.setCell ?_ ⟨by omega, by omega⟩ _)
        exact Zone.refl _ _ _
      · iterate 5 (refine Below.setCell ?_ (by dsimp only; omega) _)
        exact hB0.trans ((hB1.trans (hb1.mono hz)).mono (by omega))
    · have hd : decide (V.f1 ≤ t) = false := by simpa using hit
      have hall : ∀ y ∈ pre ++ [x], decide ((p.getD y.1 nVersion).f1 ≤ t) = false := fun y hy => by
        rcases List.mem_append.1 hy with hy | hy
        · exact h1 y hy
        · rw [List.mem_singleton.1 hy, hV]; exact hd
      gi_wp2
      exact ⟨KeepsFrom.refl _ _, Below.refl _ _, ⟨by simpa using hall, bT1, bR1⟩, by rw [← hS0]; exact hB1⟩
  case done =>
    rintro D xs W hD hxs ⟨⟨h1, bT1, bR1⟩, hB1⟩ hK
    have hn0 := HNONE.out fun i hi => by
      have hmem : i ∈ xs.map (fun x => x.1) := by rw [hxs]; exact downs_at (Nat.le_refl _) (by omega) hi
      obtain ⟨x, hx, e⟩ := List.mem_map.1 hmem
      have := h1 x hx
      rwa [e] at this
    subst hn0
    have r0 : W.cell? ⟨w.heap.size + 1, 0, none⟩ = some (.int .i64 0) := bR1.at rfl
    have r1 : W.cell? ⟨w.heap.size + 1, 1, none⟩ = some (.slice none 0 0) := bR1.at rfl
    have r2 : W.cell? ⟨w.heap.size + 1, 2, none⟩ = some (.int .i64 0) := bR1.at rfl
    have r3 : W.cell? ⟨w.heap.size + 1, 3, none⟩ = some (.int .i64 0) := bR1.at rfl
    have r4 : W.cell? ⟨w.heap.size + 1, 4, none⟩ = some (.int .i64 0) := bR1.at rfl
    have p0 := bR1.free 0
    have p1 := bR1.free 1
    have p2 := bR1.free 2
    have p3 := bR1.free 3
    have p4 := bR1.free 4
    have qF := ((((bR1.set 0 (.int .i64 4)).set 1 (.slice none 0 0)).set 2 (.int .i64 0)).set 3 (.int .i64 0)).set 4 (.int .i64 0)
    have hK5 := ((((((KeepsOthers.setCell W ⟨w.heap.size + 1, 0, none⟩ (.int .i64 4)).trans (KeepsOthers.setCell _ ⟨w.heap.size + 1, 1, none⟩ (.slice none 0 0))).trans (KeepsOthers.setCell _ ⟨w.heap.size + 1, 2, none⟩ (.int .i64 0))).trans (KeepsOthers.setCell _ ⟨w.heap.size + 1, 3, none⟩ (.int .i64 0)))).trans (KeepsOthers.setCell _ ⟨w.heap.size + 1, 4, none⟩ (.int .i64 0))).same D _ hK rfl
    have hz1 := hB1.size
    gi_wp2
    refine ⟨by simp, .inl ⟨_, _, rfl, run_takeDeferred hK5, ?_⟩⟩
    have hbl : Below w.heap.size w (((((W.setCell ⟨w.heap.size + 1, 0, none⟩ (.int .i64 4)).setCell ⟨w.heap.size + 1, 1, none⟩ (.slice none 0 0)).setCell ⟨w.heap.size + 1, 2, none⟩ (.int .i64 0)).setCell ⟨w.heap.size + 1, 3, none⟩ (.int .i64 0)).setCell ⟨w.heap.size + 1, 4, none⟩ (.int .i64 0)) := by
      iterate 5 (refine Below.setCell ?_ (by dsimp only; omega) _)
      exact hB0.trans (hB1.mono (by omega))
    have qG := blk_own (w.heap.size + 1) 39 (fun (_ : Unit) => resCells noneR none 0) () _ _ _ qF (grownBy_putObj' _ D (.deferred none)) (fun r e => by cases e; exact ⟨_, hK5, rfl⟩)
    have g0 := qG.at (x := 0) rfl
    have g1 := qG.at (x := 1) rfl
    have g2 := qG.at (x := 2) rfl
    have g3 := qG.at (x := 3) rfl
    have g4 := qG.at (x := 4) rfl
    refine ⟨.agg #[.int .i64 noneR.f0, .slice none noneR.f1.length 0, .int .i64 noneR.f2.f0, .int .i64 noneR.f2.f1, .int .i64 noneR.f2.f2], by simp [results, Try.f95, go_sem, g0, g1, g2, g3, g4], none, 0, rfl, ?_, ?_⟩
    · exact Owns.of_row (lo := 0) (hi := 0) (Mem.Own.nil _ _ _ _ _) (Nat.le_refl _) (Nat.zero_le _) (fun _ _ h => absurd h (by omega))
    · exact hbl.trans (belowK_b (w := w) (Nat.le_refl _) _ D _ _ (by omega) hK5 rfl rfl)
  case stop =>
    rintro D cd pre W hD ⟨k, hk, hpre⟩ ⟨⟨rfl, ini, last, rfl, h1, h2, aa, d, hi', bR1, ho, hd1, hd2, hhi⟩, hB1⟩ hK
    obtain ⟨k', rfl⟩ : ∃ k', k = k' + 1 := by
      cases k with
      | zero => simp [downs] at hpre
      | succ k' => exact ⟨k', rfl⟩
    rw [downs_succ, List.map_append] at hpre
    obtain ⟨e1, e2⟩ := List.append_inj' hpre rfl
    have e3 : last.1 = len - 1 - k' := by simpa using e2
    have hR1 := HHIT.out last.1 last.2 h2 fun m hm1 hm2 => by
      have hmem : m ∈ ini.map (fun x => x.1) := by rw [e1]; exact downs_at (by omega) (by omega) hm2
      obtain ⟨x, hx, e⟩ := List.mem_map.1 hmem
      have := h1 x hx
      rwa [e] at this
    rw [← hR1] at bR1 ho hd1
    have hz1 := hB1.size
    gi_wp2
    refine ⟨by simp, .inl ⟨_, _, rfl, run_takeDeferred hK, ?_⟩⟩
    have qG := blk_own (w.heap.size + 1) 39 (fun (_ : Unit) => resCells R aa d) () _ _ _ bR1 (grownBy_putObj' _ D (.deferred none)) (fun r e => by cases e; exact ⟨_, hK, rfl⟩)
    have hoG := own_own (w.heap.size + 3) hi' (fun (_ : Unit) => aa) (fun _ => R.f1.length) (fun _ => R.f1) () _ _ _ ho (grownBy_putObj' _ D (.deferred none)) (fun r e => by cases e; exact ⟨_, hK, rfl⟩)
    have g0 := qG.at (x := 0) rfl
    have g1 := qG.at (x := 1) rfl
    have g2 := qG.at (x := 2) rfl
    have g3 := qG.at (x := 3) rfl
    have g4 := qG.at (x := 4) rfl
    refine ⟨.agg #[.int .i64 R.f0, .slice aa R.f1.length d, .int .i64 R.f2.f0, .int .i64 R.f2.f1, .int .i64 R.f2.f2], by simp [results, Try.f95, go_sem, g0, g1, g2, g3, g4], aa, d, rfl, ?_, ?_⟩
    · have hzG := (grownBy_putObj' W D (.deferred none)).size
      exact Owns.of_row (c := d) hoG hd1 hd2 (fun t h1 h2 => ⟨by omega, by omega⟩)
    · exact hB1.trans (belowK_b (w := w) (Nat.le_refl _) _ D _ _ (by omega) hK rfl rfl)
end Go.Proofs.Ytagnhfalmefbhaa.Sites
