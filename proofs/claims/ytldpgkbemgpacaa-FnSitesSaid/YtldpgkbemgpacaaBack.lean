/-
  slices.Backward over the versions of an address: its contract for a range over it.
  Conditions: the versions lie in memory.
-/
import Derived.Test.YtldpgkbemgpacaaPastsOf
import Derived.RangeFuncNested
import Derived.RangeFuncBound
import Derived.RangeFuncCalls
import Derived.RangeFuncLeaves
import Derived.Shelf.Abstract
import Derived.Shelf.RegionOpen
import Derived.WalkKit
import Derived.OwnWalkIn
import Derived.TacticsInMore
import Derived.LoopNIn
import Derived.LoopIn
namespace Go.Proofs.Ytldpgkbemgpacaa.Sites
open Go Go.RowKit Go.Shelf Go.Proofs.Ytldpgkbemgpacaa.Mem Go.Proofs.Ytldpgkbemgpacaa.Gen Go.Proofs.Ytldpgkbemgpacaa.Adr Go.Proofs.Ytldpgkbemgpacaa.Res
attribute [local go_sem] Oper.semAt_some

/-- The versions of a slice, cell by cell. -/
def Lined (n0 : Nat) (W : World) (A : Option Addr) (p : List TVersion) (a : Nat → Option Addr) (c : Nat → Nat) : Prop :=
  ∀ j, j < p.length → ∃ b off, A = some ⟨b, off, none⟩ ∧ b < n0 ∧ CVersion W b (off + j * 9) (p.getD j nVersion) (a j) (c j)
theorem Lined.below {n0 : Nat} {W W' : World} {A : Option Addr} {p : List TVersion} {a : Nat → Option Addr} {c : Nat → Nat} (h : Lined n0 W A p a c) (hb : Below n0 W W') : Lined n0 W' A p a c := fun j hj => by
  obtain ⟨b, off, e, hlt, hc⟩ := h j hj
  exact ⟨b, off, e, hlt, hc.keep (hb.block b hlt)⟩
theorem lined_of {lo hi : Nat} {w : World} {A : Option Addr} {c0 : Nat} {p : List TVersion} (h : Lies lo hi w (dVersion p) (.slice A p.length c0)) :
    ∃ a c, Lined hi w A p a c ∧ ∀ j, j < p.length → Lies lo hi w (ints (p.getD j nVersion).f2.f1) (.slice (a j) (p.getD j nVersion).f2.f1.length (c j)) := by
  have h1 : ∀ j, ∃ x : Option Addr × Nat, j < p.length → (∃ b off, A = some ⟨b, off, none⟩ ∧ b < hi ∧ CVersion w b (off + j * 9) (p.getD j nVersion) x.1 x.2) ∧ Lies lo hi w (ints (p.getD j nVersion).f2.f1) (.slice x.1 (p.getD j nVersion).f2.f1.length x.2) := fun j => by
    by_cases hj : j < p.length
    · obtain ⟨b, off, A5, c5, e, _, hbh, hc, q5, _⟩ := at_Version h hj
      exact ⟨(A5, c5), fun _ => ⟨⟨b, off, e, hbh, hc⟩, q5⟩⟩
    · exact ⟨(none, 0), fun h => absurd h hj⟩
  exact ⟨fun j => (Classical.choose (h1 j)).1, fun j => (Classical.choose (h1 j)).2, fun j hj => (Classical.choose_spec (h1 j) hj).1, fun j hj => (Classical.choose_spec (h1 j) hj).2⟩
/-- What a round is handed. -/
def enc (p : List TVersion) (a : Nat → Option Addr) (c : Nat → Nat) (x : Nat) : Array Value :=
  #[.int .i64 (x : Int), .agg #[.int .i64 (p.getD x nVersion).f0.f0, .int .i64 (p.getD x nVersion).f0.f1, .int .i64 (p.getD x nVersion).f0.f2, .int .i64 (p.getD x nVersion).f1, .int .i64 (p.getD x nVersion).f2.f0, .slice (a x) (p.getD x nVersion).f2.f1.length (c x), .int .i64 (p.getD x nVersion).f2.f2.f0, .int .i64 (p.getD x nVersion).f2.f2.f1, .int .i64 (p.getD x nVersion).f2.f2.f2]]
def downs (n k : Nat) : List Nat := (List.range k).map fun i => n - 1 - i
theorem downs_succ (n k : Nat) : downs n (k + 1) = downs n k ++ [n - 1 - k] := by simp [downs, List.range_succ]
theorem downs_len (n k : Nat) : (downs n k).length = k := by simp [downs]

set_option maxRecDepth 100000 in
set_option maxHeartbeats 4000000 in
theorem backward1_in (F : Fence) (n : Nat) (h78 : F.fn 78) (hro : F.round = none) (hn : 1 ≤ n) (l Bs n0 cap len : Nat) (A : Option Addr) (p : List TVersion) (a : Nat → Option Addr) (c : Nat → Nat) (hlen : p.length = len) (hsm : len ≤ 1048576) (hBs : Bs < n0)
    (J Jx : List { x : Nat // x < len } → World → Prop)
    (hY : ∀ pre (x : { x : Nat // x < len }) W, J pre W → pre.length < len → YieldAt F (n - 1) Try.prog l (enc p a c x.1) W fun e W' =>
      (e = .returned (.bool true) ∧ J (pre ++ [x]) W' ∧ Below n0 W W') ∨ (e = .returned (.bool false) ∧ Jx (pre ++ [x]) W'))
    (W : World) (hc0 : W.cell? ⟨Bs, 0, none⟩ = some (.slice A len cap)) (hL : Lined n0 W A p a c) (h0 : J [] W) :
    CallsIn F n Try.prog 78 #[.func (.yield l) #[] #[], .pointer (some ⟨Bs, 0, none⟩)] W fun e W' => (∃ v, e = .returned v) ∧
      ((∃ ys : List { x : Nat // x < len }, ys.map (·.1) = downs len len ∧ J ys W') ∨ (∃ pre : List { x : Nat // x < len }, (∃ k, k ≤ len ∧ pre.map (·.1) = downs len k) ∧ Jx pre W')) := by
  have HL := Lib.hid hlen
  clear hlen
  refine callsIn_of_wp Try.func78 rfl h78 ?_ hro
  simp only [Try.ntmps78, List.size_toArray, List.length_cons, List.length_nil, Nat.reduceAdd, Nat.reduceSub, Array.replicate_succ, Array.replicate_zero, List.push_toArray, List.append_toArray, List.nil_append, List.cons_append]
  have hw0 : IntKind.wrap .i64 ((len : Int) - 1) = (len : Int) - 1 := by rw [IntKind.wrap_i64]; omega
  gi_wp2
  gi_loopw [3] (fun i wr => ∃ (k : Nat) (z : Int) (pre : List { x : Nat // x < len }), k ≤ len ∧ z = (len : Int) - 1 - k ∧ i = .int .i64 z ∧ Hid (pre.map (·.1) = downs len k) ∧ J pre wr ∧ Below n0 W wr)
    (fun i _ => (intOf i + 1).toNat)
  case atStart => exact ⟨0, (len : Int) - 1, [], Nat.zero_le _, by omega, rfl, by simp [Hid, downs], h0, Below.refl _ _⟩
  case round =>
    obtain ⟨k, z, pre, hk, hz, rfl, hpre, hJs, hb⟩ := hrel
    have hcB : wr.cell? ⟨Bs, 0, none⟩ = some (.slice A len cap) := (hb.cell (p := ⟨Bs, 0, none⟩) hBs).trans hc0
    by_cases hlt : k < len
    · obtain ⟨m, hm⟩ : ∃ m, m = len - 1 - k := ⟨_, rfl⟩
      have hml : m < len := by omega
      have hzm : z = (m : Int) := by omega
      have hpl : pre.length < len := by
        have := congrArg List.length hpre.out
        rw [List.length_map, downs_len] at this
        omega
      have hge : decide ((0 : Int) ≤ (m : Int)) = true := by simp
      have hw1 : IntKind.wrap .i64 ((m : Int) - 1) = (m : Int) - 1 := by rw [IntKind.wrap_i64]; omega
      have hmk : (m : Int) - 1 = (len : Int) - 1 - ((k + 1 : Nat) : Int) := by omega
      have HM := Lib.hid hm
      subst hzm
      clear hz hm
      obtain ⟨b, off, rfl, hlb, hcv⟩ := (hL.below hb) m (by rw [HL.out]; exact hml)
      obtain ⟨fn, tmps, assign, body, hy, hR⟩ := hY pre ⟨m, hml⟩ wr hJs hpl
      simp only [enc] at hy
      obtain ⟨V, hV⟩ : ∃ V, p.getD m nVersion = V := ⟨_, rfl⟩
      rw [hV] at hy hcv
      clear hV
      obtain ⟨c0, c1, c2, c3, c4, c5, c6, c7, c8⟩ := hcv.all
      have hpn : (pre ++ [(⟨m, hml⟩ : { x : Nat // x < len })]).map (fun x => x.1) = downs len (k + 1) := by rw [List.map_append, hpre.out, downs_succ, ← HM.out]; rfl
      have HP := Lib.hid hpn
      clear hpn hcv
      gi_wp2
      refine hR.mono ?_
      rintro e W3 (⟨rfl, hJ3, hk3⟩ | ⟨rfl, hJx3⟩)
      · gi_wp2
        go_roundw
        case rel => exact ⟨k + 1, (m : Int) - 1, pre ++ [⟨m, hml⟩], by omega, hmk, by go_num, HP, hJ3, hb.trans hk3⟩
        case measure => simp [intOf]; omega
      · gi_wp2
        refine bodyPost_ret (results_none rfl _ _ _) rfl ?_
        exact ⟨⟨_, rfl⟩, .inr ⟨_, ⟨k + 1, by omega, HP.out⟩, hJx3⟩⟩
    · obtain rfl : k = len := by omega
      have hzm : z = -1 := by omega
      subst hzm
      clear hz
      gi_wp2
      go_end0
      exact ⟨⟨_, rfl⟩, .inl ⟨_, hpre.out, hJs⟩⟩

set_option maxHeartbeats 1000000 in
theorem backward_in (F : Fence) (n : Nat) (h65 : F.fn 65) (hro : F.round = none) (a : Option Addr) (len cap : Nat) (w : World) :
    CallsIn F n Try.prog 65 #[.slice a len cap] w fun e w' => e = .returned (.func (.func 78) #[] #[.pointer (some ⟨w.heap.size, 0, none⟩)]) ∧ w' = w.alloc (.cells #[.slice a len cap] 61) := by
  refine callsIn_of_wp Try.func65 rfl h65 ?_ hro
  simp only [Try.ntmps65, List.size_toArray, List.length_cons, List.length_nil, Nat.reduceAdd, Nat.reduceSub, Array.replicate_succ, Array.replicate_zero, List.push_toArray, List.append_toArray, List.nil_append, List.cons_append]
  gi_wp2
  go_ret
  exact ⟨rfl, rfl⟩

theorem backward_stops (F : Fence) (n : Nat) (h78 : F.fn 78) (hro : F.round = none) (hn : 1 ≤ n) (Bs cap len : Nat) (A : Option Addr) (p : List TVersion) (a : Nat → Option Addr) (c : Nat → Nat) (hlen : p.length = len) (hsm : len ≤ 1048576) (w : World) (hBs : Bs < w.heap.size)
    (hc0 : w.cell? ⟨Bs, 0, none⟩ = some (.slice A len cap)) (hL : Lined w.heap.size w A p a c) :
    SeqStopsK F n Try.prog 78 #[.pointer (some ⟨Bs, 0, none⟩)] (fun x : { x : Nat // x < len } => enc p a c x.1) (Below w.heap.size)
      (fun ys => ys.map (·.1) = downs len len) (fun pre => ∃ k, k ≤ len ∧ pre.map (·.1) = downs len k) len w := fun l J Jx W hW _ _ hY h0 =>
  backward1_in F n h78 hro hn l Bs w.heap.size cap len A p a c hlen hsm hBs J Jx hY W ((hW.cell (p := ⟨Bs, 0, none⟩) hBs).trans hc0) (hL.below hW) h0
end Go.Proofs.Ytldpgkbemgpacaa.Sites
