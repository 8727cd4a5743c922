/-
  What a slice of parts takes, each body once and each body as often as it is used: the model and the program.
  Conditions: the parts lie in memory; in all at most 2^20 numbers.
-/
import Derived.Test.YtedjclnojocjkaaGreatDoorPtsEq
import Derived.Test.YtedjclnojocjkaaGreatDoorResSize
import Derived.Test.YtedjclnojocjkaaGreatDoorMinMax
import Derived.Deep.RegionHeld3
namespace Go.Proofs.YtedjclnojocjkaaGreatDoor.Parts
open Go Go.RowKit Go.Proofs.YtedjclnojocjkaaGreatDoor.Mem Go.Proofs.YtedjclnojocjkaaGreatDoor.Adr Go.Proofs.YtedjclnojocjkaaGreatDoor.Res

def clamp (u : Int) : Int := if u < 0 then 0 else if 1000 < u then 1000 else u
theorem clamp_range (u : Int) : 0 ≤ clamp u ∧ clamp u ≤ 1000 := by unfold clamp; split <;> (try split) <;> omega
theorem clamp_spec (u m : Int) (h : m = if 1000 < u then 1000 else u) : (m < 0 ∧ clamp u = 0) ∨ (0 ≤ m ∧ clamp u = m) := by unfold clamp; split at h <;> split <;> (try split) <;> omega
theorem clamp_impl (u m : Int) (h : m = if u < 0 then 0 else u) : (m < 1000 ∧ clamp u = m) ∨ (1000 ≤ m ∧ clamp u = 1000) := by unfold clamp; split at h <;> (try split) <;> (try split) <;> omega
def costs (P : Prt) : Int := ((P.zs.length : Int) + 1) * clamp P.u
def each : List Prt → Int
  | [] => 0
  | P :: l => costs P + each l
theorem each_take : ∀ (l : List Prt) (i : Nat), i < l.length → each (l.take (i + 1)) = each (l.take i) + costs (pt l i)
  | [], _, h => by simp at h
  | P :: l, 0, _ => by simp [each, pt]
  | P :: l, i + 1, h => by
    simp only [List.take_succ_cons, each]
    rw [each_take l i (by simpa using h)]
    simp [pt]; omega
theorem costs_range (P : Prt) : 0 ≤ costs P ∧ costs P ≤ 1000 * ((P.zs.length : Int) + 1) := by
  obtain ⟨h1, h2⟩ := clamp_range P.u
  unfold costs
  constructor
  · exact Int.mul_nonneg (by omega) h1
  · have := Int.mul_le_mul_of_nonneg_left h2 (show (0 : Int) ≤ (P.zs.length : Int) + 1 by omega)
    omega
theorem each_range : ∀ (l : List Prt), 0 ≤ each l ∧ each l ≤ 1000 * (room l : Int)
  | [] => by simp [each, room]
  | P :: l => by
    have h1 := costs_range P
    have h2 := each_range l
    simp only [each, room]
    omega
theorem room_take (l : List Prt) (i : Nat) (h : i < l.length) : room (l.take (i + 1)) = room (l.take i) + ((pt l i).zs.length + 1) := by
  have h1 := room_eq (l.take (i + 1))
  have h2 := room_eq (l.take i)
  have h3 := bodies_take l i h
  simp only [List.length_take] at h1 h2
  omega
theorem room_le (l : List Prt) (i : Nat) : room (l.take i) ≤ room l := by
  have h1 := room_eq (l.take i)
  have h2 := room_eq l
  have h3 := bodies_le l i
  simp only [List.length_take] at h1
  omega

set_option maxHeartbeats 2000000 in
set_option maxRecDepth 100000 in
theorem stored_impl (lo hi : Nat) (w : World) (a : Option Addr) (n c : Nat) (l : List Prt) (hr : PRow lo hi w a n l) (hh : hi ≤ w.heap.size) (hm : room l ≤ 1048576) :
    Calls Tryz.prog 17 #[.slice a n c] w fun e w' => e = .returned (.tuple #[.int .i64 (room l : Int), .int .i64 (each l)]) ∧ Below w.heap.size w w' := by
  obtain ⟨U, hU⟩ : ∃ U : Int, (room l : Int) = U := ⟨_, rfl⟩
  obtain ⟨V, hV⟩ : ∃ V : Int, each l = V := ⟨_, rfl⟩
  have hq := room_eq l
  have hlen := hr.len
  have hn : n ≤ 1048576 := by omega
  rw [hU, hV]
  have HU := Lib.hid hU
  have HV := Lib.hid hV
  have HL := Lib.hid hlen
  have HM := Lib.hid hm
  clear hU hV hlen hm hq
  go_enter Tryz.func17, Tryz.ntmps17
  go_wp2
  go_loopw [4, 5, 11] (fun x y i wr => ∃ (j : Nat) (s t : Int), j ≤ n ∧ i = .int .i64 j ∧ x = .int .i64 s ∧ y = .int .i64 t ∧ 0 ≤ s ∧ s ≤ 1048576 ∧ 0 ≤ t ∧ t ≤ 1048576000 ∧ Hid (s = (room (l.take j) : Int)) ∧ Hid (t = each (l.take j)) ∧ Below w.heap.size w wr) (fun _ _ i _ => n - (intOf i).toNat)
  case atStart => exact ⟨0, 0, 0, Nat.zero_le _, rfl, rfl, rfl, by omega, by omega, by omega, by omega, by simp [room, Hid], by simp [each, Hid], Below.refl _ _⟩
  case round =>
    obtain ⟨j, s, t, hj, rfl, rfl, rfl, s0, s1, t0, t1, HS, HT, hb⟩ := hrel
    by_cases hlt : j < n
    · obtain ⟨b, off, A, cc, rfl, _, _, q, hla, _⟩ := (hr.under hb hh).at hlt
      have e1 := room_take l j (by have := HL.out; omega)
      have e2 := room_le l (j + 1)
      have e3 := each_take l j (by have := HL.out; omega)
      have e4 := each_range (l.take (j + 1))
      have e5 := costs_range (pt l j)
      obtain ⟨P, hP⟩ : ∃ P, pt l j = P := ⟨_, rfl⟩
      rw [hP] at q hla e1 e3 e5
      have hzb : P.zs.length ≤ 1048576 := by have := HM.out; omega
      have hs2 : s + ((P.zs.length : Int) + 1) ≤ 1048576 := by have := HM.out; have := HS.out; omega
      obtain ⟨K, hK⟩ : ∃ K : Int, clamp P.u = K := ⟨_, rfl⟩
      obtain ⟨k0, k1⟩ := clamp_range P.u
      rw [hK] at k0 k1
      obtain ⟨C, hC⟩ : ∃ C : Int, costs P = C := ⟨_, rfl⟩
      rw [hC] at e3 e5
      have hmul : IntKind.wrap .i64 (((P.zs.length : Int) + 1) * K) = C := by
        have : ((P.zs.length : Int) + 1) * K = C := by rw [← hC, ← hK]; rfl
        rw [this, IntKind.wrap_i64]; omega
      have hC0 : 0 ≤ C := e5.1
      have hw1 : IntKind.wrap .i64 (s + ((P.zs.length : Int) + 1)) = s + ((P.zs.length : Int) + 1) := by rw [IntKind.wrap_i64]; omega
      have hC1 : C ≤ 1048577000 := by omega
      have ht2 : t + C ≤ 1048576000 := by have := HM.out; have := HT.out; omega
      have hw2 : IntKind.wrap .i64 (t + C) = t + C := by rw [IntKind.wrap_i64]; omega
      have hS := fun W => size_impl P.k P.h P.p P.q W A P.zs.length cc (by omega)
      obtain ⟨m, hmm⟩ : ∃ m : Int, m = if P.u < 0 then 0 else P.u := ⟨_, rfl⟩
      have hmx := fun W => MinMax.max_impl P.u 0 m W (by split at hmm <;> omega)
      have hcl := clamp_impl P.u m hmm
      rw [hK] at hcl
      have hmn := fun W => MinMax.min_impl m 1000 K W (by omega)
      have H1 := Lib.hid e1
      have H3 := Lib.hid e3
      have hA : Below w.heap.size w (wr.alloc (.cells #[.int .i64 P.d, .int .i64 P.k, .slice A P.zs.length cc, .int .i64 P.h, .int .i64 P.p, .int .i64 P.q, .int .i64 P.u] 62)) := hb.alloc hb.size _
      have Q := Sept.new 62 (.int .i64 P.d) (.int .i64 P.k) (.slice A P.zs.length cc) (.int .i64 P.h) (.int .i64 P.p) (.int .i64 P.q) (.int .i64 P.u) wr
      clear hla e1 e2 e3 e4 e5 hK hC hP hmm hcl
      obtain ⟨c0, c1, c2, c3, c4, c5, c6⟩ := q
      obtain ⟨d0, d1, d2, d3, d4, d5, d6⟩ := Q.cells
      go_wp2_with fail
      go_at_call 18
      refine (hS _).mono ?_
      rintro e w1 ⟨rfl, hb1⟩
      have hB1 := hA.trans (hb1.mono hA.size)
      have Q := Q.below hb1
      clear c0 c1 c2 c3 c4 c5 c6 d0 d1 d2 d3 d4 d5 d6 hb1 hA
      obtain ⟨d0, d1, d2, d3, d4, d5, d6⟩ := Q.cells
      go_wp2_with fail
      go_at_call 56
      refine (hmx _).mono ?_
      rintro e w2 ⟨rfl, hb2⟩
      have hB2 := hB1.trans (hb2.mono hB1.size)
      go_wp2_with fail
      go_at_call 55
      refine (hmn _).mono ?_
      rintro e w3 ⟨rfl, hb3⟩
      have hB3 := hB2.trans (hb3.mono hB2.size)
      clear d0 d1 d2 d3 d4 d5 d6
      go_wp2
      go_roundw
      case rel =>
        refine ⟨j + 1, s + ((P.zs.length : Int) + 1), t + C, by omega, by go_num, by first | rw [hw1] | go_num, by first | rw [hw2] | go_num, by omega, by omega, by omega, by omega, ?_, ?_, hB3⟩
        · have h1 := HS.out
          have h2 := H1.out
          show _ = _
          omega
        · have h1 := HT.out
          have h2 := H3.out
          show _ = _
          omega
      case measure => simp [intOf]; omega
    · have hd : decide ((j : Int) < (n : Int)) = false := by simp; omega
      have HE := Lib.hid (show j = n by omega)
      go_wp2
      have h1 := HS.out
      have h2 := HT.out
      have h3 := HL.out
      rw [HE.out, ← h3, List.take_length] at h1 h2
      go_ret2
      exact ⟨by rw [h1, h2, HU.out, HV.out]; rfl, hb⟩
end Go.Proofs.YtedjclnojocjkaaGreatDoor.Parts
