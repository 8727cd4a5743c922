/-
  AddressText of the program and of the model: the text of an address, no letter if it is not valid.
  Conditions: the numbers are ints of 64 bits; for the program: the library's table of powers of ten holds what its initialiser lays.
-/
import Derived.Test.YtpemjlmopnndbaaDoorAdr
import Derived.Test.YtpemjlmopnndbaaDoorFmt
import Derived.Test.YtpemjlmopnndbaaDoorFmtSpec
import Derived.Deep.RegionHeld3
namespace Go.Proofs.YtpemjlmopnndbaaDoor.Adr
open Go Go.RowKit Go.Proofs.YtpemjlmopnndbaaDoor.Fmt

theorem three_below {W W' : World} {b : Nat} {x0 x1 x2 : Value} (hb : Below W.heap.size W W') (k : W.cell? ⟨b, 0, none⟩ = some x0 ∧ W.cell? ⟨b, 1, none⟩ = some x1 ∧ W.cell? ⟨b, 2, none⟩ = some x2) :
    W'.cell? ⟨b, 0, none⟩ = some x0 ∧ W'.cell? ⟨b, 1, none⟩ = some x1 ∧ W'.cell? ⟨b, 2, none⟩ = some x2 := ⟨cell_below k.1 hb, cell_below k.2.1 hb, cell_below k.2.2 hb⟩
theorem threeT_below {W W' : World} {b : Nat} {x0 x1 x2 : Value} (hb : Below W.heap.size W W') (k : W.cell? ⟨b, 0, none⟩ = some x0 ∧ W.cell? ⟨b, 1, none⟩ = some x1 ∧ W.cell? ⟨b, 2, none⟩ = some x2 ∧ Tab W) :
    W'.cell? ⟨b, 0, none⟩ = some x0 ∧ W'.cell? ⟨b, 1, none⟩ = some x1 ∧ W'.cell? ⟨b, 2, none⟩ = some x2 ∧ Tab W' := ⟨cell_below k.1 hb, cell_below k.2.1 hb, cell_below k.2.2.1 hb, k.2.2.2.on hb⟩

theorem body_zero (h p : Int) : (⟨(body h p 0).toArray⟩ : ByteArray) = ⟨(Lib.itoa h).toArray⟩ ++ ⟨#[47]⟩ ++ ⟨(Lib.itoa p).toArray⟩ := by
  apply ByteArray.ext
  simp [body]
theorem body_some {h p q : Int} (k : q ≠ 0) : (⟨(body h p q).toArray⟩ : ByteArray) = ⟨(Lib.itoa h).toArray⟩ ++ ⟨#[47]⟩ ++ ⟨(Lib.itoa p).toArray⟩ ++ ⟨#[63]⟩ ++ ⟨(Lib.itoa q).toArray⟩ := by
  apply ByteArray.ext
  simp [body, k]

set_option maxHeartbeats 1000000 in
set_option maxRecDepth 100000 in
theorem text_impl (h p q : Int) (w : World) (l0 : -9223372036854775808 ≤ h) (u0 : h ≤ 9223372036854775807) (l1 : -9223372036854775808 ≤ p) (u1 : p ≤ 9223372036854775807) (l2 : -9223372036854775808 ≤ q) (u2 : q ≤ 9223372036854775807) (ht : Tab w) :
    Calls Tryd.prog 14 #[(Value.agg #[Value.int IntKind.i64 (h), Value.int IntKind.i64 (p), Value.int IntKind.i64 (q)])] w fun e w' => e = .returned (.string ⟨(atext h p q).toArray⟩) ∧ Below w.heap.size w w' := by
  have bx := box_new w 27 h p q
  have bB : Below w.heap.size w (w.alloc (.cells #[.int .i64 h, .int .i64 p, .int .i64 q] 27)) := by repeat' (first | exact Below.refl _ _ | assumption | refine Below.setCell ?_ ?_ _ | refine Below.alloc ?_ ?_ _ | refine Adr.below_drewN ?_ _ | refine Below.drew ?_ | exact Nat.le_refl _ | omega | (dsimp only; omega) | refine Adr.le_alloc ?_ | refine Adr.le_set ?_ | refine Adr.le_drewN ?_ | refine Adr.le_drew ?_)
  have ht0 := ht.on bB
  have n0 := itoa_len h l0 u0
  have n1 := itoa_len p l1 u1
  have n2 := itoa_len q l2 u2
  have m1 : ¬ 9223372036854775807 < (Lib.itoa h).length + 1 := by omega
  have m2 : ¬ 9223372036854775807 < (Lib.itoa h).length + 1 + (Lib.itoa p).length := by omega
  have m3 : ¬ 9223372036854775807 < (Lib.itoa h).length + 1 + (Lib.itoa p).length + 1 := by omega
  have m4 : ¬ 9223372036854775807 < (Lib.itoa h).length + 1 + (Lib.itoa p).length + 1 + (Lib.itoa q).length := by omega
  clear n0 n1 n2
  have hi := is_impl h p q (w.alloc (.cells #[.int .i64 h, .int .i64 p, .int .i64 q] 27))
  cases k : okA h p q with
  | false =>
    rw [k] at hi
    rw [atext_bad k]
    go_enter Tryd.func14, Tryd.ntmps14
    go_wp2_with (go_at_call 13; refine hi.mono ?_; rintro e w1 ⟨rfl, hb1⟩)
    go_ret
    exact ⟨rfl, bB.trans (hb1.mono bB.size)⟩
  | true =>
    rw [k] at hi
    rw [atext_ok k]
    go_enter Tryd.func14, Tryd.ntmps14
    go_wp2_with fail
    go_at_call 13
    refine hi.mono ?_
    rintro e w1 ⟨rfl, hb1⟩
    obtain ⟨c0, c1, c2⟩ := bx.below hb1
    have ht1 := ht0.on hb1
    have ht2 : Tab w1.drew := ht1.on (Below.refl _ _).drew
    have bB : Below w.heap.size w w1 := bB.trans (hb1.mono bB.size)
    clear hi bx ht0 hb1 ht
    go_wp2_with fail
    go_region_held3 (fun w' => w'.cell? ⟨w.heap.size, 0, none⟩ = some (.int .i64 h) ∧ w'.cell? ⟨w.heap.size, 1, none⟩ = some (.int .i64 p) ∧ w'.cell? ⟨w.heap.size, 2, none⟩ = some (.int .i64 q) ∧ Tab w')
      (first | exact s3 | assumption | exact ⟨c0, c1, c2, ht2⟩ | exact ⟨c0, c1, c2, ht1⟩ | go_keep)
      (first | (go_at_call 15; refine (fmt_any _ _ (by assumption) (by assumption) (by first | assumption | exact (by assumption : _ ∧ _ ∧ _ ∧ Tab _).2.2.2)).mono ?_; rintro e w3 ⟨rfl, hb3⟩; have s3 := threeT_below hb3 (by assumption); have bB : Below w.heap.size w w3 := (by first | exact bB.trans (hb3.mono bB.size) | exact bB.drew.trans (hb3.mono bB.size))))
    all_goals
      obtain ⟨c0, c1, c2, ht3⟩ := s3
      by_cases q0 : q = 0
      · subst q0
        go_wp2
        go_ret
        exact ⟨by rw [body_zero]; rfl, by assumption⟩
      · have q1 : (q == 0) = false := by simpa using q0
        go_wp2_with (go_at_call 15; refine (fmt_any _ _ (by assumption) (by assumption) (by assumption)).mono ?_; rintro e w4 ⟨rfl, hb4⟩)
        go_ret
        exact ⟨by rw [body_some q0]; rfl, bB.trans (hb4.mono bB.size)⟩
set_option maxHeartbeats 1000000 in
set_option maxRecDepth 100000 in
theorem text_spec (h p q : Int) (w : World) (l0 : -9223372036854775808 ≤ h) (u0 : h ≤ 9223372036854775807) (l1 : -9223372036854775808 ≤ p) (u1 : p ≤ 9223372036854775807) (l2 : -9223372036854775808 ≤ q) (u2 : q ≤ 9223372036854775807) :
    Calls Tryd.prog 9 #[(Value.agg #[Value.int IntKind.i64 (h), Value.int IntKind.i64 (p), Value.int IntKind.i64 (q)])] w fun e w' => e = .returned (.string ⟨(atext h p q).toArray⟩) ∧ Below w.heap.size w w' := by
  have bx := box_new w 27 h p q
  have bB : Below w.heap.size w (w.alloc (.cells #[.int .i64 h, .int .i64 p, .int .i64 q] 27)) := by repeat' (first | exact Below.refl _ _ | assumption | refine Below.setCell ?_ ?_ _ | refine Below.alloc ?_ ?_ _ | refine Adr.below_drewN ?_ _ | refine Below.drew ?_ | exact Nat.le_refl _ | omega | (dsimp only; omega) | refine Adr.le_alloc ?_ | refine Adr.le_set ?_ | refine Adr.le_drewN ?_ | refine Adr.le_drew ?_)
  have n0 := itoa_len h l0 u0
  have n1 := itoa_len p l1 u1
  have n2 := itoa_len q l2 u2
  have m1 : ¬ 9223372036854775807 < (Lib.itoa h).length + 1 := by omega
  have m2 : ¬ 9223372036854775807 < (Lib.itoa h).length + 1 + (Lib.itoa p).length := by omega
  have m3 : ¬ 9223372036854775807 < (Lib.itoa h).length + 1 + (Lib.itoa p).length + 1 := by omega
  have m4 : ¬ 9223372036854775807 < (Lib.itoa h).length + 1 + (Lib.itoa p).length + 1 + (Lib.itoa q).length := by omega
  clear n0 n1 n2
  have hi := is_spec h p q (w.alloc (.cells #[.int .i64 h, .int .i64 p, .int .i64 q] 27))
  cases k : okA h p q with
  | false =>
    rw [k] at hi
    rw [atext_bad k]
    go_enter Tryd.func9, Tryd.ntmps9
    go_wp2_with (go_at_call 8; refine hi.mono ?_; rintro e w1 ⟨rfl, hb1⟩)
    go_ret
    exact ⟨rfl, bB.trans (hb1.mono bB.size)⟩
  | true =>
    rw [k] at hi
    rw [atext_ok k]
    go_enter Tryd.func9, Tryd.ntmps9
    go_wp2_with fail
    go_at_call 8
    refine hi.mono ?_
    rintro e w1 ⟨rfl, hb1⟩
    obtain ⟨c0, c1, c2⟩ := bx.below hb1
    have bB : Below w.heap.size w w1 := bB.trans (hb1.mono bB.size)
    clear hi bx hb1
    go_wp2_with fail
    go_region_held3 (fun w' => w'.cell? ⟨w.heap.size, 0, none⟩ = some (.int .i64 h) ∧ w'.cell? ⟨w.heap.size, 1, none⟩ = some (.int .i64 p) ∧ w'.cell? ⟨w.heap.size, 2, none⟩ = some (.int .i64 q))
      (first | exact s3 | assumption | exact ⟨c0, c1, c2⟩ | go_keep)
      (first | (go_at_call 10; refine (sfmt_any _ _ (by assumption) (by assumption)).mono ?_; rintro e w3 ⟨rfl, hb3⟩; have s3 := three_below hb3 (by assumption); have bB : Below w.heap.size w w3 := (by first | exact bB.trans (hb3.mono bB.size) | exact bB.drew.trans (hb3.mono bB.size))))
    all_goals
      obtain ⟨c0, c1, c2⟩ := s3
      by_cases q0 : q = 0
      · subst q0
        go_wp2
        go_ret
        exact ⟨by rw [body_zero]; rfl, by assumption⟩
      · have q1 : (q != 0) = true := by simpa using q0
        go_wp2_with (go_at_call 10; refine (sfmt_any _ _ (by assumption) (by assumption)).mono ?_; rintro e w4 ⟨rfl, hb4⟩)
        go_ret
        exact ⟨by rw [body_some q0]; rfl, bB.trans (hb4.mono bB.size)⟩
end Go.Proofs.YtpemjlmopnndbaaDoor.Adr
