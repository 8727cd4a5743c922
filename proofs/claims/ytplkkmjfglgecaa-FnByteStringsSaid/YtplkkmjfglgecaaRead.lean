/-
  ReadUvarint, of the program (through a closure that takes one byte after the other) and of the model.
  Conditions: the row lies in memory.
-/
import Derived.Test.YtplkkmjfglgecaaVar
namespace Go.Proofs.Ytplkkmjfglgecaa.Read
open Go Go.RowKit Go.Proofs.Ytplkkmjfglgecaa.Mem Go.Proofs.Ytplkkmjfglgecaa.Var
set_option linter.unusedVariables false

/-- The closure's two variables: block B holds the slice, block B + 1 the offset. -/
def Tape (B : Nat) (a : Option Addr) (n c : Nat) (p : Int) (w : World) : Prop :=
  w.heap[B]? = some (.cells #[.slice a n c] 22 (0, 0)) ∧ w.heap[B + 1]? = some (.cells #[.int .i64 p] 3 (0, 0))

theorem and127u8 (z : Int) (h0 : 0 ≤ z) (h1 : z ≤ 255) : bits .and .u8 z 127 = z % 128 := by
  obtain ⟨x, rfl⟩ : ∃ x : Nat, z = x := ⟨z.toNat, by omega⟩
  have h127 : (BitVec.ofInt 8 127).toNat = 2 ^ 7 - 1 := by decide
  have hx : (BitVec.ofInt 8 (x : Int)).toNat = x := by
    rw [BitVec.ofInt_natCast, BitVec.toNat_ofNat]; exact Nat.mod_eq_of_lt (by omega)
  show IntKind.u8.wrap ((BitVec.ofInt 8 (x : Int) &&& BitVec.ofInt 8 127).toNat : Int) = _
  rw [BitVec.toNat_and, hx, h127, Nat.and_two_pow_sub_one_eq_mod, IntKind.wrap_u8]
  omega

set_option maxRecDepth 100000 in
theorem from_any (a : Option Addr) (n c : Nat) (p : Int) (w : World) :
    Calls Try.prog 47 #[.slice a n c, .int .i64 p] w fun e w' =>
      e = .returned (.func (Fn.func 57) #[] #[.pointer (some ⟨w.heap.size + 1, 0, none⟩), .pointer (some ⟨w.heap.size, 0, none⟩)]) ∧ Tape w.heap.size a n c p w' ∧ Below w.heap.size w w' ∧ w'.heap.size = w.heap.size + 2 := by
  have hmf : ∀ (fn : Fn) (first cap : Array Value) (w : World), (Instr.makeFunc fn first cap).run Try.prog w = .ok (.func fn first cap) w := fun _ _ _ _ => rfl
  go_enter Try.func47, Try.ntmps47
  go_wp2
  go_ret
  refine ⟨rfl, ⟨?_, ?_⟩, ((Below.refl _ _).alloc (Nat.le_refl _) _).alloc (by simp) _, by simp⟩
  · rw [Below.heap_alloc _ _ _ (by simp)]; exact heap_alloc_new w _
  · have := heap_alloc_new (w.alloc (.cells #[.slice a n c] 22)) (.cells #[.int .i64 p] 3)
    simpa using this

set_option maxRecDepth 100000 in
theorem take_no (B : Nat) (a : Option Addr) (n c : Nat) (p : Int) (w : World) (ht : Tape B a n c p w) (hp : p < 0 ∨ (n : Int) - 1 < p) (hn : n ≤ 35184372088832) :
    Calls Try.prog 57 #[.pointer (some ⟨B + 1, 0, none⟩), .pointer (some ⟨B, 0, none⟩)] w fun e w' =>
      e = .returned (.tuple #[.int .u8 0, .bool false]) ∧ w = w' := by
  have c0 : w.cell? ⟨B, 0, none⟩ = some (.slice a n c) := by simp [World.cell?, ht.1]
  have c1 : w.cell? ⟨B + 1, 0, none⟩ = some (.int .i64 p) := by simp [World.cell?, ht.2]
  go_enter Try.func57, Try.ntmps57
  go_wp2_with (go_at_call 52; refine (Range.in_no _ _ _ _ hp).mono ?_; rintro e w' ⟨rfl, rfl⟩)
  go_ret2
  exact ⟨rfl, rfl⟩

set_option maxRecDepth 100000 in
theorem take_yes (B lo hi : Nat) (a : Option Addr) (n c : Nat) (p : Nat) (z : Int) (zs : List Int) (w : World) (ht : Tape B a n c p w) (hr : Row .u8 lo hi w a n zs) (hh : hi ≤ B) (hp : p < n) (hn : n ≤ 35184372088832) (hz : Hid (zs.getD p 0 = z)) :
    Calls Try.prog 57 #[.pointer (some ⟨B + 1, 0, none⟩), .pointer (some ⟨B, 0, none⟩)] w fun e w' =>
      e = .returned (.tuple #[.int .u8 z, .bool true]) ∧ Tape B a n c ((p + 1 : Nat) : Int) w' ∧ Below B w w' := by
  have c0 : w.cell? ⟨B, 0, none⟩ = some (.slice a n c) := by simp [World.cell?, ht.1]
  have c1 : w.cell? ⟨B + 1, 0, none⟩ = some (.int .i64 p) := by simp [World.cell?, ht.2]
  have f1 := frozen_of_row w (B + 1) 0 _ _ ht.2
  obtain ⟨b, off, rfl, _, hb, hc⟩ := hr.cell hp
  rw [hz.out] at hc
  have hne : ¬ b = B + 1 := by omega
  have hne2 : ¬ B = B + 1 := by omega
  go_enter Try.func57, Try.ntmps57
  go_wp2_with (go_at_call 52; refine (Range.in_yes _ _ _ _ (by omega) (by omega)).mono ?_; rintro e w' ⟨rfl, rfl⟩)
  go_ret2
  refine ⟨rfl, ⟨?_, ?_⟩, (Below.refl _ _).setCell (by simp) _⟩
  · rw [heap_setCell_other _ _ _ _ (by simp)]; exact ht.1
  · have := heap_setCell_same w (B + 1) 0 _ _ (.int .i64 ((p + 1 : Nat) : Int)) ht.2
    simpa using this

/-- How a reading ends. -/
def readEnd (R : Option (Nat × Nat)) (off : Int) : Ending :=
  match R with
  | none => .returned (.tuple #[.int .i64 0, .int .i64 0, .bool false])
  | some (m, l) => .returned (.tuple #[.int .i64 m, .int .i64 (off + (l : Int)), .bool true])
def Reading (R : Option (Nat × Nat)) (off : Int) (w : World) (e : Ending) (w' : World) : Prop := e = readEnd R off ∧ Below w.heap.size w w'

theorem rd_end (f i N : Nat) : rd f i N [] = none := by cases f <;> rfl
theorem rd_more {f i N : Nat} {z : Int} {l : List Int} (hz : 128 ≤ z) : rd (f + 1) i N (z :: l) = rd f (i + 1) (N + z.toNat % 128 * 2 ^ (7 * i)) l := by
  rw [rd, if_pos hz]
theorem rd_bad {f i N : Nat} {z : Int} {l : List Int} (hz : z < 128) (hb : 1000000000000 < N + z.toNat * 2 ^ (7 * i) ∨ (z = 0 ∧ 0 < i)) : rd (f + 1) i N (z :: l) = none := by
  rw [rd, if_neg (by omega), if_pos hb]
theorem rd_good {f i N : Nat} {z : Int} {l : List Int} (hz : z < 128) (hb : ¬ (1000000000000 < N + z.toNat * 2 ^ (7 * i) ∨ (z = 0 ∧ 0 < i))) : rd (f + 1) i N (z :: l) = some (N + z.toNat * 2 ^ (7 * i), i + 1) := by
  rw [rd, if_neg (by omega), if_neg hb]
theorem drop_at {zs : List Int} {p : Nat} (h : p < zs.length) : zs.drop p = zs.getD p 0 :: zs.drop (p + 1) := by
  rw [List.drop_eq_getElem_cons h, List.getD_eq_getElem?_getD, List.getElem?_eq_getElem h]; rfl
theorem pow_room {i N z : Nat} (hi : i ≤ 5) (hN : N < 2 ^ (7 * i)) (hz : z < 128) : N + z * 2 ^ (7 * i) < 2 ^ (7 * (i + 1)) ∧ N + z * 2 ^ (7 * i) < 4398046511104 := by
  have h1 : 2 ^ (7 * (i + 1)) = 128 * 2 ^ (7 * i) := by rw [Nat.mul_add, Nat.pow_add]; omega
  have h2 : z * 2 ^ (7 * i) + 2 ^ (7 * i) ≤ 128 * 2 ^ (7 * i) := by
    have : (z + 1) * 2 ^ (7 * i) ≤ 128 * 2 ^ (7 * i) := Nat.mul_le_mul_right _ (by omega)
    rw [Nat.add_mul] at this; omega
  have h3 : 2 ^ (7 * (i + 1)) ≤ 2 ^ 42 := Nat.pow_le_pow_right (by omega) (by omega)
  omega

set_option maxHeartbeats 2000000 in
set_option maxRecDepth 100000 in
theorem impl_at (lo hi : Nat) (a : Option Addr) (n c : Nat) (p : Nat) (zs : List Int) (w : World) (R : Option (Nat × Nat)) (hr : Row .u8 lo hi w a n zs) (hh : hi ≤ w.heap.size) (hn : n ≤ 35184372088832) (hp : p ≤ 9223372036854775807)
    (hR : Hid (rd 6 0 0 (zs.drop p) = R)) :
    Calls Try.prog 15 #[.slice a n c, .int .i64 p] w (Reading R p w) := by
  have HL := Lib.hid hr.len
  go_enter Try.func15, Try.ntmps15
  go_wp2_with fail
  go_at_call 47
  refine (from_any a n c p w).mono ?_
  rintro e w1 ⟨rfl, ht, hb, hsz⟩
  have hz1 : Zone (w.heap.size + 1) (w.heap.size + 2) w1 w1 := Zone.refl _ _ _
  have HS := Lib.hid hsz
  clear hsz
  go_wp2_with fail
  go_loopw [8, 15] (fun N i wr => ∃ (k m : Nat), k ≤ 6 ∧ i = .int .i64 k ∧ N = .int .i64 m ∧ m < 2 ^ (7 * k) ∧ (k = 0 ∨ p + k ≤ n) ∧ Hid (rd (6 - k) k m (zs.drop (p + k)) = R) ∧ Tape w.heap.size a n c ((p + k : Nat) : Int) wr ∧ Below w.heap.size w wr) (fun _ i _ => 6 - (intOf i).toNat)
  case atStart => exact ⟨0, 0, by omega, rfl, rfl, by omega, .inl rfl, hR, ht, hb⟩
  case round =>
    obtain ⟨k, m, hk, rfl, rfl, hm, hpk, hRk, htk, hbk⟩ := hrel
    clear ht hb hz1 hR
    have hrk := hr.under hbk hh
    by_cases hlt : k < 6
    · by_cases hin : p + k < n
      · have hz := bounds_u8 (hrk.wf_at hin)
        have HD := Lib.hid (drop_at (zs := zs) (p := p + k) (by have := HL.out; omega))
        obtain ⟨z, hzz⟩ : ∃ z, Hid (zs.getD (p + k) 0 = z) := ⟨_, rfl⟩
        rw [hzz.out] at hz HD
        obtain ⟨z0, z1⟩ := hz
        obtain ⟨t, ht⟩ : ∃ t : Nat, Hid (t = z.toNat % 128 * 2 ^ (7 * k)) := ⟨_, rfl⟩
        have hroom := pow_room (i := k) (z := z.toNat % 128) (by omega) hm (by omega)
        rw [← ht.out] at hroom
        obtain ⟨hroom1, hroom2⟩ := hroom
        have ha := and127u8 z z0 z1
        have hw1 : wrap64 (z % 128 * 2 ^ (7 * k)) = (t : Int) := by
          have h1 : z % 128 * 2 ^ (7 * k) = (t : Int) := by
            rw [ht.out]; push_cast; congr 1; omega
          rw [h1, IntWalk.wrap64_in _ ⟨by omega, by omega⟩]
        have HRoom := Lib.hid hroom1
        clear hroom1
        by_cases hge : 128 ≤ z
        · go_wp2_with fail
          refine (take_yes w.heap.size lo hi a n c (p + k) z zs _ htk hrk hh hin hn hzz).mono ?_
          rintro e w2 ⟨rfl, ht2, hb2⟩
          go_wp2
          go_roundw
          case rel =>
            refine ⟨k + 1, m + t, by omega, by go_num, by go_num, HRoom.out, .inr (by omega), ?_, ht2, hbk.trans hb2⟩
            have h1 := hRk.out
            rw [HD.out, show 6 - k = (6 - (k + 1)) + 1 by omega, rd_more hge, ← ht.out] at h1
            exact h1
          case measure => simp [intOf]; omega
        · have HG := Lib.hid hge
          have hz7 : z % 128 = z := Int.emod_eq_of_lt (by omega) (by omega)
          have ht7 : Hid (t = z.toNat * 2 ^ (7 * k)) := by
            have h1 := ht.out
            rw [show z.toNat % 128 = z.toNat by omega] at h1
            exact h1
          rw [hz7] at ha hw1
          clear hz7
          have hge' : decide (128 ≤ z) = false := by simp; omega
          have hRR := hRk.out
          rw [HD.out, show 6 - k = (6 - (k + 1)) + 1 by omega] at hRR
          have HRR := Lib.hid hRR
          clear hRR
          by_cases hbig : 1000000000000 < m + t
          · have hb1 : decide ((1000000000000 : Int) < (m : Int) + (t : Int)) = true := by simp; omega
            go_wp2_with fail
            refine (take_yes w.heap.size lo hi a n c (p + k) z zs _ htk hrk hh hin hn hzz).mono ?_
            rintro e w2 ⟨rfl, ht2, hb2⟩
            go_wp2
            go_ret3
            have h1 := HRR.out
            rw [rd_bad HG.out (.inl (by rw [← ht7.out]; exact hbig))] at h1
            subst h1
            exact ⟨rfl, hbk.trans hb2⟩
          · have hb1 : decide ((1000000000000 : Int) < (m : Int) + (t : Int)) = false := by simp; omega
            by_cases hz0 : z = 0
            · have he : (z == 0) = true := by rw [hz0]; rfl
              by_cases hk0 : 0 < k
              · go_wp2_with fail
                refine (take_yes w.heap.size lo hi a n c (p + k) z zs _ htk hrk hh hin hn hzz).mono ?_
                rintro e w2 ⟨rfl, ht2, hb2⟩
                have HZ := Lib.hid hz0
                clear hz0
                go_wp2
                go_ret3
                have h1 := HRR.out
                rw [rd_bad HG.out (.inr ⟨HZ.out, hk0⟩)] at h1
                subst h1
                exact ⟨rfl, hbk.trans hb2⟩
              · have hk1 : decide ((0 : Int) < (k : Int)) = false := by simp; omega
                go_wp2_with fail
                refine (take_yes w.heap.size lo hi a n c (p + k) z zs _ htk hrk hh hin hn hzz).mono ?_
                rintro e w2 ⟨rfl, ht2, hb2⟩
                have HZ := Lib.hid hz0
                clear hz0
                go_wp2
                go_ret3
                have h1 := HRR.out
                rw [rd_good HG.out (by rw [← ht7.out]; omega), ← ht7.out] at h1
                subst h1
                exact ⟨by simp [readEnd]; omega, hbk.trans hb2⟩
            · have he : (z == 0) = false := by simpa using hz0
              have HZ := Lib.hid hz0
              clear hz0
              go_wp2_with fail
              refine (take_yes w.heap.size lo hi a n c (p + k) z zs _ htk hrk hh hin hn hzz).mono ?_
              rintro e w2 ⟨rfl, ht2, hb2⟩
              go_wp2
              go_ret3
              have h1 := HRR.out
              rw [rd_good HG.out (by rw [← ht7.out]; have := HZ.out; omega), ← ht7.out] at h1
              subst h1
              exact ⟨by simp [readEnd]; omega, hbk.trans hb2⟩
      · go_wp2_with fail
        refine (take_no w.heap.size a n c ((p + k : Nat) : Int) _ htk (.inr (by omega)) hn).mono ?_
        rintro e w2 ⟨rfl, rfl⟩
        go_wp2
        go_ret3
        have h1 := hRk.out
        rw [List.drop_of_length_le (by have := HL.out; omega), rd_end] at h1
        subst h1
        exact ⟨rfl, hbk⟩
    · have hd : decide ((k : Int) < 6) = false := by simp; omega
      go_wp2
      go_ret3
      have h1 := hRk.out
      rw [show 6 - k = 0 by omega] at h1
      subst h1
      exact ⟨rfl, hbk⟩

/-- What ReadUvarint finds at an offset. -/
def rdAt (zs : List Int) (x : Int) : Option (Nat × Nat) := if 0 ≤ x then rdv (zs.drop x.toNat) else none

set_option maxHeartbeats 1000000 in
set_option maxRecDepth 100000 in
theorem impl_neg (lo hi : Nat) (a : Option Addr) (n c : Nat) (x : Int) (zs : List Int) (w : World) (hr : Row .u8 lo hi w a n zs) (hn : n ≤ 35184372088832) (hx : x < 0) :
    Calls Try.prog 15 #[.slice a n c, .int .i64 x] w (Reading none x w) := by
  go_enter Try.func15, Try.ntmps15
  go_wp2_with fail
  go_at_call 47
  refine (from_any a n c x w).mono ?_
  rintro e w1 ⟨rfl, ht, hb, hsz⟩
  clear hsz
  go_wp2_with fail
  refine wp_loop_rounds 1 ?_
  rw [rounds_succ]
  go_wp2_with fail
  refine (take_no w.heap.size a n c x _ ht (.inl hx) hn).mono ?_
  rintro e w2 ⟨rfl, rfl⟩
  go_wp2
  go_ret3
  exact ⟨rfl, hb⟩

theorem impl_any (lo hi : Nat) (w : World) (a : Option Addr) (n c : Nat) (x : Int) (zs : List Int) (hr : Row .u8 lo hi w a n zs) (hh : hi ≤ w.heap.size) (hn : n ≤ 35184372088832) (hx : x ≤ 9223372036854775807) :
    Calls Try.prog 15 #[.slice a n c, .int .i64 x] w (Reading (rdAt zs x) x w) := by
  by_cases h : 0 ≤ x
  · have h1 : rdAt zs x = rdv (zs.drop x.toNat) := if_pos h
    have h2 : ((x.toNat : Nat) : Int) = x := by omega
    have := impl_at lo hi a n c x.toNat zs w (rdAt zs x) hr hh hn (by omega) (by rw [h1]; rfl)
    rw [h2] at this
    exact this
  · have h1 : rdAt zs x = none := if_neg h
    rw [h1]
    exact impl_neg lo hi a n c x zs w hr hn (by omega)

/-! The model. -/
theorem and127w (z : Int) (h0 : 0 ≤ z) (h1 : z ≤ 255) : bits .and .i64 z 127 = z % 128 := by
  have := and127 z.toNat (by omega)
  rw [show ((z.toNat : Nat) : Int) = z by omega] at this
  rw [this]; omega
theorem or_sum (m t k : Nat) (hm : m < 2 ^ (7 * k)) (ht : ∃ z, t = z * 2 ^ (7 * k)) (hb : m + t < 4398046511104) : bits .or .i64 (m : Int) (t : Int) = (m : Int) + (t : Int) := by
  obtain ⟨z, rfl⟩ := ht
  show IntKind.i64.wrap ((BitVec.ofInt 64 (m : Int) ||| BitVec.ofInt 64 ((z * 2 ^ (7 * k) : Nat) : Int)).toNat : Int) = _
  rw [BitVec.toNat_or, ofInt_i64 m (by omega), ofInt_i64 _ (by omega), or_disjoint m (7 * k) z hm, IntKind.wrap_i64]
  omega

set_option maxHeartbeats 2000000 in
set_option maxRecDepth 100000 in
theorem spec_at (lo hi : Nat) (a : Option Addr) (n c : Nat) (p : Nat) (zs : List Int) (w : World) (R : Option (Nat × Nat)) (hr : Row .u8 lo hi w a n zs) (hh : hi ≤ w.heap.size) (hn : n ≤ 35184372088832) (hp : p ≤ 9223372036854775807)
    (hR : Hid (rd 6 0 0 (zs.drop p) = R)) :
    Calls Try.prog 18 #[.slice a n c, .int .i64 p] w (Reading R p w) := by
  have HL := Lib.hid hr.len
  go_enter Try.func18, Try.ntmps18
  go_wp2_with fail
  go_loopw [7, 8] (fun N i wr => ∃ (k m : Nat), k ≤ 6 ∧ i = .int .i64 k ∧ N = .int .i64 m ∧ m < 2 ^ (7 * k) ∧ (k = 0 ∨ p + k ≤ n) ∧ Hid (rd (6 - k) k m (zs.drop (p + k)) = R) ∧ Below w.heap.size w wr) (fun _ i _ => 6 - (intOf i).toNat)
  case atStart => exact ⟨0, 0, by omega, rfl, rfl, by omega, .inl rfl, hR, Below.refl _ _⟩
  case round =>
    obtain ⟨k, m, hk, rfl, rfl, hm, hpk, hRk, hbk⟩ := hrel
    clear hR
    have hrk := hr.under hbk hh
    by_cases hlt : k < 6
    · by_cases hin : p + k < n
      · have hz := bounds_u8 (hrk.wf_at hin)
        have HD := Lib.hid (drop_at (zs := zs) (p := p + k) (by have := HL.out; omega))
        obtain ⟨z, hzz⟩ : ∃ z, Hid (zs.getD (p + k) 0 = z) := ⟨_, rfl⟩
        obtain ⟨b, off, rfl, _, _, hc⟩ := hrk.cell hin
        rw [hzz.out] at hz HD hc
        obtain ⟨z0, z1⟩ := hz
        obtain ⟨t, ht⟩ : ∃ t : Nat, Hid (t = z.toNat % 128 * 2 ^ (7 * k)) := ⟨_, rfl⟩
        have hroom := pow_room (i := k) (z := z.toNat % 128) (by omega) hm (by omega)
        rw [← ht.out] at hroom
        obtain ⟨hroom1, hroom2⟩ := hroom
        have ha := and127w z z0 z1
        have ho := or_sum m t k hm ⟨_, ht.out⟩ hroom2
        have hw1 : wrap64 (z % 128 * 2 ^ (7 * k)) = (t : Int) := by
          have h1 : z % 128 * 2 ^ (7 * k) = (t : Int) := by
            rw [ht.out]; push_cast; congr 1; omega
          rw [h1, IntWalk.wrap64_in _ ⟨by omega, by omega⟩]
        have HRoom := Lib.hid hroom1
        clear hroom1
        have hoff : decide ((n : Int) - (k : Int) ≤ (p : Int)) = false := by simp; omega
        have HM := Lib.hid hm
        clear hm
        by_cases hge : 128 ≤ z
        · have hge' : decide (z < 128) = false := by simp; omega
          go_wp2
          go_roundw
          case rel =>
            refine ⟨k + 1, m + t, by omega, by go_num, by go_num, HRoom.out, .inr (by omega), ?_, hbk⟩
            have h1 := hRk.out
            rw [HD.out, show 6 - k = (6 - (k + 1)) + 1 by omega, rd_more hge, ← ht.out] at h1
            exact h1
          case measure => simp [intOf]; omega
        · have HG := Lib.hid hge
          have hz7 : z % 128 = z := Int.emod_eq_of_lt (by omega) (by omega)
          have ht7 : Hid (t = z.toNat * 2 ^ (7 * k)) := by
            have h1 := ht.out
            rw [show z.toNat % 128 = z.toNat by omega] at h1
            exact h1
          rw [hz7] at ha hw1
          clear hz7
          have hRR := hRk.out
          rw [HD.out, show 6 - k = (6 - (k + 1)) + 1 by omega] at hRR
          have HRR := Lib.hid hRR
          clear hRR
          by_cases hbig : 1000000000000 < m + t
          · have hb1 : decide ((1000000000000 : Int) < (m : Int) + (t : Int)) = true := by simp; omega
            by_cases hz0 : z = 0
            · have he : (z == 0) = true := by rw [hz0]; rfl
              have HZ := Lib.hid hz0
              clear hz0
              by_cases hk0 : 0 < k
              · go_wp2
                go_ret3
                have h1 := HRR.out
                rw [rd_bad HG.out (.inl (by rw [← ht7.out]; exact hbig))] at h1
                subst h1
                exact ⟨rfl, hbk⟩
              · have hk1 : decide ((0 : Int) < (k : Int)) = false := by simp; omega
                go_wp2
                go_ret3
                have h1 := HRR.out
                rw [rd_bad HG.out (.inl (by rw [← ht7.out]; exact hbig))] at h1
                subst h1
                exact ⟨rfl, hbk⟩
            · have he : (z == 0) = false := by simpa using hz0
              have HZ := Lib.hid hz0
              clear hz0
              go_wp2
              go_ret3
              have h1 := HRR.out
              rw [rd_bad HG.out (.inl (by rw [← ht7.out]; exact hbig))] at h1
              subst h1
              exact ⟨rfl, hbk⟩
          · have hb1 : decide ((1000000000000 : Int) < (m : Int) + (t : Int)) = false := by simp; omega
            by_cases hz0 : z = 0
            · have he : (z == 0) = true := by rw [hz0]; rfl
              have HZ := Lib.hid hz0
              clear hz0
              by_cases hk0 : 0 < k
              · go_wp2
                go_ret3
                have h1 := HRR.out
                rw [rd_bad HG.out (.inr ⟨HZ.out, hk0⟩)] at h1
                subst h1
                exact ⟨rfl, hbk⟩
              · have hk1 : decide ((0 : Int) < (k : Int)) = false := by simp; omega
                go_wp2
                go_ret3
                have h1 := HRR.out
                rw [rd_good HG.out (by rw [← ht7.out]; omega), ← ht7.out] at h1
                subst h1
                exact ⟨by simp [readEnd]; omega, hbk⟩
            · have he : (z == 0) = false := by simpa using hz0
              have HZ := Lib.hid hz0
              clear hz0
              go_wp2
              go_ret3
              have h1 := HRR.out
              rw [rd_good HG.out (by rw [← ht7.out]; have := HZ.out; omega), ← ht7.out] at h1
              subst h1
              exact ⟨by simp [readEnd]; omega, hbk⟩
      · have hoff : decide ((n : Int) - (k : Int) ≤ (p : Int)) = true := by simp; omega
        go_wp2
        go_ret3
        have h1 := hRk.out
        rw [List.drop_of_length_le (by have := HL.out; omega), rd_end] at h1
        subst h1
        exact ⟨rfl, hbk⟩
    · have hd : decide ((k : Int) < 6) = false := by simp; omega
      go_wp2
      go_ret3
      have h1 := hRk.out
      rw [show 6 - k = 0 by omega] at h1
      subst h1
      exact ⟨rfl, hbk⟩

set_option maxHeartbeats 1000000 in
set_option maxRecDepth 100000 in
theorem spec_neg (a : Option Addr) (n c : Nat) (x : Int) (w : World) (hx : x < 0) :
    Calls Try.prog 18 #[.slice a n c, .int .i64 x] w (Reading none x w) := by
  go_enter Try.func18, Try.ntmps18
  go_wp2_with fail
  refine wp_loop_rounds 1 ?_
  rw [rounds_succ]
  go_wp2
  go_ret3
  exact ⟨rfl, Below.refl _ _⟩

theorem spec_any (lo hi : Nat) (w : World) (a : Option Addr) (n c : Nat) (x : Int) (zs : List Int) (hr : Row .u8 lo hi w a n zs) (hh : hi ≤ w.heap.size) (hn : n ≤ 35184372088832) (hx : x ≤ 9223372036854775807) :
    Calls Try.prog 18 #[.slice a n c, .int .i64 x] w (Reading (rdAt zs x) x w) := by
  by_cases h : 0 ≤ x
  · have h1 : rdAt zs x = rdv (zs.drop x.toNat) := if_pos h
    have h2 : ((x.toNat : Nat) : Int) = x := by omega
    have := spec_at lo hi a n c x.toNat zs w (rdAt zs x) hr hh hn (by omega) (by rw [h1]; rfl)
    rw [h2] at this
    exact this
  · have h1 : rdAt zs x = none := if_neg h
    rw [h1]
    exact spec_neg a n c x w (by omega)
end Go.Proofs.Ytplkkmjfglgecaa.Read
