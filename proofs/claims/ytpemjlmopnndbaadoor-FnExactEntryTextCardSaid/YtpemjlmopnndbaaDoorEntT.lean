/-
  The text of an entry, of the program and of the model: the same text.
  Conditions: the numbers are ints of 64 bits; the library's table of powers of ten holds what its initialiser lays.
-/
import Derived.Test.YtpemjlmopnndbaaDoorAddrText
import Derived.Test.YtpemjlmopnndbaaDoorNames
import Derived.Test.YtpemjlmopnndbaaDoorScriptS
import Derived.Test.YtpemjlmopnndbaaDoorBlk
namespace Go.Proofs.YtpemjlmopnndbaaDoor.Rec
open Go Go.RowKit Go.Proofs.YtpemjlmopnndbaaDoor.Mem Go.Proofs.YtpemjlmopnndbaaDoor.Gen Go.Proofs.YtpemjlmopnndbaaDoor.Scripts Go.Proofs.YtpemjlmopnndbaaDoor.Fmt
set_option linter.unusedVariables false

def etext (k h p q v : Int) : ByteArray := (if Adr.okA h p q then nameB k ++ ⟨#[32]⟩ ++ ⟨(Adr.atext h p q).toArray⟩ else nameB k) ++ ⟨#[61]⟩ ++ ⟨(Lib.itoa v).toArray⟩
theorem nameB_len (k : Int) : (nameB k).size ≤ 16 := by
  by_cases h : 1 ≤ k ∧ k ≤ 9
  · rcases kinds k h.1 h.2 <;> decide
  · rw [nameB_none (by omega)]; decide
theorem atext_len (h p q : Int) (l0 : -9223372036854775808 ≤ h) (u0 : h ≤ 9223372036854775807) (l1 : -9223372036854775808 ≤ p) (u1 : p ≤ 9223372036854775807) (l2 : -9223372036854775808 ≤ q) (u2 : q ≤ 9223372036854775807) : (Adr.atext h p q).length ≤ 100 := by
  have n0 := itoa_len h l0 u0
  have n1 := itoa_len p l1 u1
  have n2 := itoa_len q l2 u2
  unfold Adr.atext
  split
  · unfold Adr.body
    split <;> simp <;> omega
  · simp

set_option maxHeartbeats 1000000 in
set_option maxRecDepth 100000 in
theorem etext_spec (k h p q v : Int) (w : World) (l0 : -9223372036854775808 ≤ h) (u0 : h ≤ 9223372036854775807) (l1 : -9223372036854775808 ≤ p) (u1 : p ≤ 9223372036854775807) (l2 : -9223372036854775808 ≤ q) (u2 : q ≤ 9223372036854775807) (l3 : -9223372036854775808 ≤ v) (u3 : v ≤ 9223372036854775807) :
    Calls Tryd.prog 4 #[.agg #[.int .i64 k, .int .i64 h, .int .i64 p, .int .i64 q, .int .i64 v]] w fun e w' => e = .returned (.string (etext k h p q v)) ∧ Below w.heap.size w w' := by
  obtain ⟨W, hW⟩ : ∃ Z, w.alloc (.cells #[.int .i64 k, .int .i64 h, .int .i64 p, .int .i64 q, .int .i64 v] 29) = Z := ⟨_, rfl⟩
  have hB : Below w.heap.size w W := by rw [← hW]; exact (Below.refl _ _).alloc (Nat.le_refl _) _
  have qE : Blk 29 w.heap.size [.int .i64 k, .int .i64 h, .int .i64 p, .int .i64 q, .int .i64 v] W := by rw [← hW]; exact Blk.new _ [_, _, _, _, _] w
  obtain ⟨bE, hbE⟩ : ∃ b, w.heap.size = b := ⟨_, rfl⟩
  rw [hbE] at qE
  have HW := Lib.hid hW
  have HBE := Lib.hid hbE
  have kN := fun V => name_spec k V
  have kD := fun V => Adr.is_spec h p q V
  have kT := fun (V : World) => Adr.text_spec h p q V l0 u0 l1 u1 l2 u2
  have kF := fun (V : World) => Fmt.sfmt_any v V l3 u3
  have n1 := nameB_len k
  have n2 := atext_len h p q l0 u0 l1 u1 l2 u2
  have n3 := Fmt.itoa_len v l3 u3
  have HE := Lib.hid (show etext k h p q v = (if Adr.okA h p q then nameB k ++ ⟨#[32]⟩ ++ ⟨(Adr.atext h p q).toArray⟩ else nameB k) ++ ⟨#[61]⟩ ++ ⟨(Lib.itoa v).toArray⟩ from rfl)
  obtain ⟨r, hr⟩ : ∃ r, Adr.okA h p q = r := ⟨_, rfl⟩
  obtain ⟨s1, h1⟩ : ∃ s, nameB k = s := ⟨_, rfl⟩
  obtain ⟨x2, h2⟩ : ∃ s, Adr.atext h p q = s := ⟨_, rfl⟩
  obtain ⟨x3, h3⟩ : ∃ s, Lib.itoa v = s := ⟨_, rfl⟩
  obtain ⟨E, hE⟩ : ∃ s, etext k h p q v = s := ⟨_, rfl⟩
  simp only [h1] at kN n1 HE
  simp only [h2] at kT n2 HE
  simp only [h3] at kF n3 HE
  simp only [hr] at kD HE
  simp only [hE] at HE
  rw [hE]
  clear hE h1 h2 h3 hr hW hbE
  go_enter Tryd.func4, Tryd.ntmps4
  go_upto_region 1 with fail
  rw [HW.out, HBE.out]
  have y0 : W.cell? ⟨bE, 0, none⟩ = some (.int .i64 k) := qE.at rfl
  have y1 : W.cell? ⟨bE, 1, none⟩ = some (.int .i64 h) := qE.at rfl
  have y2 : W.cell? ⟨bE, 2, none⟩ = some (.int .i64 p) := qE.at rfl
  have y3 : W.cell? ⟨bE, 3, none⟩ = some (.int .i64 q) := qE.at rfl
  have y4 : W.cell? ⟨bE, 4, none⟩ = some (.int .i64 v) := qE.at rfl
  go_wp2_with fail
  go_at_call 7
  refine (kN _).mono ?_
  rintro e w2 ⟨rfl, hb2⟩
  have qE := qE.below hb2
  have hB := hB.trans (hb2.mono hB.size)
  clear y0 y1 y2 y3 y4
  have y0 : w2.cell? ⟨bE, 0, none⟩ = some (.int .i64 k) := qE.at rfl
  have y1 : w2.cell? ⟨bE, 1, none⟩ = some (.int .i64 h) := qE.at rfl
  have y2 : w2.cell? ⟨bE, 2, none⟩ = some (.int .i64 p) := qE.at rfl
  have y3 : w2.cell? ⟨bE, 3, none⟩ = some (.int .i64 q) := qE.at rfl
  have y4 : w2.cell? ⟨bE, 4, none⟩ = some (.int .i64 v) := qE.at rfl
  go_wp2_with fail
  go_at_call 8
  refine (kD _).mono ?_
  rintro e w3 ⟨rfl, hb3⟩
  have qE := qE.below hb3
  have hB := hB.trans (hb3.mono hB.size)
  clear y0 y1 y2 y3 y4
  have y0 : w3.cell? ⟨bE, 0, none⟩ = some (.int .i64 k) := qE.at rfl
  have y1 : w3.cell? ⟨bE, 1, none⟩ = some (.int .i64 h) := qE.at rfl
  have y2 : w3.cell? ⟨bE, 2, none⟩ = some (.int .i64 p) := qE.at rfl
  have y3 : w3.cell? ⟨bE, 3, none⟩ = some (.int .i64 q) := qE.at rfl
  have y4 : w3.cell? ⟨bE, 4, none⟩ = some (.int .i64 v) := qE.at rfl
  have m1 : ¬ 9223372036854775807 < s1.size + 1 := by omega
  have m2 : ¬ 9223372036854775807 < s1.size + 1 + x3.length := by omega
  have m3 : ¬ 9223372036854775807 < s1.size + 1 + x2.length := by omega
  have m4 : ¬ 9223372036854775807 < s1.size + (1 + x2.length) := by omega
  have m5 : ¬ 9223372036854775807 < 1 + x2.length := by omega
  have m6 : ¬ 9223372036854775807 < s1.size + 1 + x2.length + 1 := by omega
  have m7 : ¬ 9223372036854775807 < s1.size + (1 + x2.length) + 1 := by omega
  have m8 : ¬ 9223372036854775807 < s1.size + 1 + x2.length + 1 + x3.length := by omega
  have m9 : ¬ 9223372036854775807 < s1.size + (1 + x2.length) + 1 + x3.length := by omega
  cases r with
  | false =>
    go_wp2_with fail
    go_at_call 10
    refine (kF _).mono ?_
    rintro e w9 ⟨rfl, hb9⟩
    have hB := hB.trans (hb9.mono hB.size)
    go_wp2
    go_ret
    exact ⟨by rw [HE.out]; rfl, hB⟩
  | true =>
    go_wp2_with fail
    go_at_call 9
    refine (kT _).mono ?_
    rintro e w4 ⟨rfl, hb4⟩
    have qE := qE.below hb4
    have hB := hB.trans (hb4.mono hB.size)
    clear y0 y1 y2 y3 y4
    have y0 : w4.cell? ⟨bE, 0, none⟩ = some (.int .i64 k) := qE.at rfl
    have y1 : w4.cell? ⟨bE, 1, none⟩ = some (.int .i64 h) := qE.at rfl
    have y2 : w4.cell? ⟨bE, 2, none⟩ = some (.int .i64 p) := qE.at rfl
    have y3 : w4.cell? ⟨bE, 3, none⟩ = some (.int .i64 q) := qE.at rfl
    have y4 : w4.cell? ⟨bE, 4, none⟩ = some (.int .i64 v) := qE.at rfl
    go_wp2_with fail
    go_at_call 10
    refine (kF _).mono ?_
    rintro e w9 ⟨rfl, hb9⟩
    have hB := hB.trans (hb9.mono hB.size)
    go_wp2
    go_ret
    exact ⟨by rw [HE.out]; simp [ByteArray.append_assoc], hB⟩

set_option maxHeartbeats 1000000 in
set_option maxRecDepth 100000 in
theorem etext_impl (k h p q v : Int) (w : World) (l0 : -9223372036854775808 ≤ h) (u0 : h ≤ 9223372036854775807) (l1 : -9223372036854775808 ≤ p) (u1 : p ≤ 9223372036854775807) (l2 : -9223372036854775808 ≤ q) (u2 : q ≤ 9223372036854775807) (l3 : -9223372036854775808 ≤ v) (u3 : v ≤ 9223372036854775807) (ht : Tab w) :
    Calls Tryd.prog 6 #[.agg #[.int .i64 k, .int .i64 h, .int .i64 p, .int .i64 q, .int .i64 v]] w fun e w' => e = .returned (.string (etext k h p q v)) ∧ Below w.heap.size w w' := by
  obtain ⟨W, hW⟩ : ∃ Z, w.alloc (.cells #[.int .i64 k, .int .i64 h, .int .i64 p, .int .i64 q, .int .i64 v] 29) = Z := ⟨_, rfl⟩
  have hB : Below w.heap.size w W := by rw [← hW]; exact (Below.refl _ _).alloc (Nat.le_refl _) _
  have qE : Blk 29 w.heap.size [.int .i64 k, .int .i64 h, .int .i64 p, .int .i64 q, .int .i64 v] W := by rw [← hW]; exact Blk.new _ [_, _, _, _, _] w
  have htW := ht.on hB
  clear ht
  obtain ⟨bE, hbE⟩ : ∃ b, w.heap.size = b := ⟨_, rfl⟩
  rw [hbE] at qE
  have HW := Lib.hid hW
  have HBE := Lib.hid hbE
  have kN := fun V => name_impl k V
  have kD := fun V => Adr.is_impl h p q V
  have kT := fun (V : World) (hV : Tab V) => Adr.text_impl h p q V l0 u0 l1 u1 l2 u2 hV
  have kF := fun (V : World) (hV : Tab V) => Fmt.fmt_any v V l3 u3 hV
  have n1 := nameB_len k
  have n2 := atext_len h p q l0 u0 l1 u1 l2 u2
  have n3 := Fmt.itoa_len v l3 u3
  have HE := Lib.hid (show etext k h p q v = (if Adr.okA h p q then nameB k ++ ⟨#[32]⟩ ++ ⟨(Adr.atext h p q).toArray⟩ else nameB k) ++ ⟨#[61]⟩ ++ ⟨(Lib.itoa v).toArray⟩ from rfl)
  obtain ⟨r, hr⟩ : ∃ r, Adr.okA h p q = r := ⟨_, rfl⟩
  obtain ⟨s1, h1⟩ : ∃ s, nameB k = s := ⟨_, rfl⟩
  obtain ⟨x2, h2⟩ : ∃ s, Adr.atext h p q = s := ⟨_, rfl⟩
  obtain ⟨x3, h3⟩ : ∃ s, Lib.itoa v = s := ⟨_, rfl⟩
  obtain ⟨E, hE⟩ : ∃ s, etext k h p q v = s := ⟨_, rfl⟩
  simp only [h1] at kN n1 HE
  simp only [h2] at kT n2 HE
  simp only [h3] at kF n3 HE
  simp only [hr] at kD HE
  simp only [hE] at HE
  rw [hE]
  clear hE h1 h2 h3 hr hW hbE
  go_enter Tryd.func6, Tryd.ntmps6
  go_upto_region 1 with fail
  rw [HW.out, HBE.out]
  have y0 : W.cell? ⟨bE, 0, none⟩ = some (.int .i64 k) := qE.at rfl
  have y1 : W.cell? ⟨bE, 1, none⟩ = some (.int .i64 h) := qE.at rfl
  have y2 : W.cell? ⟨bE, 2, none⟩ = some (.int .i64 p) := qE.at rfl
  have y3 : W.cell? ⟨bE, 3, none⟩ = some (.int .i64 q) := qE.at rfl
  have y4 : W.cell? ⟨bE, 4, none⟩ = some (.int .i64 v) := qE.at rfl
  go_wp2_with fail
  go_at_call 12
  refine (kN _).mono ?_
  rintro e w2 ⟨rfl, hb2⟩
  have qE := qE.below hb2
  have hB := hB.trans (hb2.mono hB.size)
  have htW := htW.on hb2
  clear y0 y1 y2 y3 y4
  have y0 : w2.cell? ⟨bE, 0, none⟩ = some (.int .i64 k) := qE.at rfl
  have y1 : w2.cell? ⟨bE, 1, none⟩ = some (.int .i64 h) := qE.at rfl
  have y2 : w2.cell? ⟨bE, 2, none⟩ = some (.int .i64 p) := qE.at rfl
  have y3 : w2.cell? ⟨bE, 3, none⟩ = some (.int .i64 q) := qE.at rfl
  have y4 : w2.cell? ⟨bE, 4, none⟩ = some (.int .i64 v) := qE.at rfl
  go_wp2_with fail
  go_at_call 13
  refine (kD _).mono ?_
  rintro e w3 ⟨rfl, hb3⟩
  have qE := qE.below hb3
  have hB := hB.trans (hb3.mono hB.size)
  have htW := htW.on hb3
  clear y0 y1 y2 y3 y4
  have y0 : w3.cell? ⟨bE, 0, none⟩ = some (.int .i64 k) := qE.at rfl
  have y1 : w3.cell? ⟨bE, 1, none⟩ = some (.int .i64 h) := qE.at rfl
  have y2 : w3.cell? ⟨bE, 2, none⟩ = some (.int .i64 p) := qE.at rfl
  have y3 : w3.cell? ⟨bE, 3, none⟩ = some (.int .i64 q) := qE.at rfl
  have y4 : w3.cell? ⟨bE, 4, none⟩ = some (.int .i64 v) := qE.at rfl
  have m1 : ¬ 9223372036854775807 < s1.size + 1 := by omega
  have m2 : ¬ 9223372036854775807 < s1.size + 1 + x3.length := by omega
  have m3 : ¬ 9223372036854775807 < s1.size + 1 + x2.length := by omega
  have m4 : ¬ 9223372036854775807 < s1.size + (1 + x2.length) := by omega
  have m5 : ¬ 9223372036854775807 < 1 + x2.length := by omega
  have m6 : ¬ 9223372036854775807 < s1.size + 1 + x2.length + 1 := by omega
  have m7 : ¬ 9223372036854775807 < s1.size + (1 + x2.length) + 1 := by omega
  have m8 : ¬ 9223372036854775807 < s1.size + 1 + x2.length + 1 + x3.length := by omega
  have m9 : ¬ 9223372036854775807 < s1.size + (1 + x2.length) + 1 + x3.length := by omega
  cases r with
  | false =>
    go_wp2_with fail
    go_at_call 15
    refine (kF _ htW).mono ?_
    rintro e w9 ⟨rfl, hb9⟩
    have hB := hB.trans (hb9.mono hB.size)
    go_wp2
    go_ret
    exact ⟨by rw [HE.out]; rfl, hB⟩
  | true =>
    go_wp2_with fail
    go_at_call 14
    refine (kT _ htW).mono ?_
    rintro e w4 ⟨rfl, hb4⟩
    have qE := qE.below hb4
    have hB := hB.trans (hb4.mono hB.size)
    have htW := htW.on hb4
    clear y0 y1 y2 y3 y4
    have y0 : w4.cell? ⟨bE, 0, none⟩ = some (.int .i64 k) := qE.at rfl
    have y1 : w4.cell? ⟨bE, 1, none⟩ = some (.int .i64 h) := qE.at rfl
    have y2 : w4.cell? ⟨bE, 2, none⟩ = some (.int .i64 p) := qE.at rfl
    have y3 : w4.cell? ⟨bE, 3, none⟩ = some (.int .i64 q) := qE.at rfl
    have y4 : w4.cell? ⟨bE, 4, none⟩ = some (.int .i64 v) := qE.at rfl
    go_wp2_with fail
    go_at_call 15
    refine (kF _ htW).mono ?_
    rintro e w9 ⟨rfl, hb9⟩
    have hB := hB.trans (hb9.mono hB.size)
    go_wp2
    go_ret
    exact ⟨by rw [HE.out]; simp [ByteArray.append_assoc], hB⟩
end Go.Proofs.YtpemjlmopnndbaaDoor.Rec
