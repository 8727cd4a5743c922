/-
  The addresses' law returns true, whatever bytes it is given.
  Conditions: the library's tables and its two errors hold what their initialisers lay.
-/
import Derived.Test.YtoiaigmfoglcbaaDoorAddrParse
import Derived.Test.YtoiaigmfoglcbaaDoorAdrDist
import Derived.Test.YtoiaigmfoglcbaaDoorDrawAdr
import Derived.Deep.DeepCutAuto
namespace Go.Proofs.YtoiaigmfoglcbaaDoor.FnAddressesW
open Go Go.RowKit Go.Proofs.YtoiaigmfoglcbaaDoor.Adr Go.Proofs.YtoiaigmfoglcbaaDoor.Fmt Go.Proofs.YtoiaigmfoglcbaaDoor.Draw

theorem bef_same (h p q : Int) : bef h p q h p q = false := by simp [bef]
theorem bef_flip {h p q h' p' q' : Int} (n : ¬ (h = h' ∧ p = p' ∧ q = q')) : bef h' p' q' h p q = !bef h p q h' p' q' := by
  unfold bef
  by_cases e0 : h = h'
  · subst e0
    by_cases e1 : p = p'
    · subst e1
      have e2 : q ≠ q' := fun e => n ⟨rfl, rfl, e⟩
      simp only [if_true]
      by_cases l : q < q'
      · have l' : ¬ q' < q := by omega
        simp [l, l']
      · have l' : q' < q := by omega
        simp [l, l']
    · have e1' : ¬ p' = p := fun e => e1 e.symm
      simp only [if_true, if_neg e1, if_neg e1']
      by_cases l : p < p'
      · have l' : ¬ p' < p := by omega
        simp [l, l']
      · have l' : p' < p := by omega
        simp [l, l']
  · have e0' : ¬ h' = h := fun e => e0 e.symm
    simp only [if_neg e0, if_neg e0']
    by_cases l : h < h'
    · have l' : ¬ h' < h := by omega
      simp [l, l']
    · have l' : h' < h := by omega
      simp [l, l']
theorem text_case (h p q : Int) : (okA h p q = true ∧ h = paH (atext h p q) ∧ p = paP (atext h p q) ∧ q = paQ (atext h p q) ∧ true = paY (atext h p q)) ∨ (okA h p q = false ∧ 0 = paH (atext h p q) ∧ 0 = paP (atext h p q) ∧ 0 = paQ (atext h p q) ∧ false = paY (atext h p q)) := by
  cases k : okA h p q with
  | true => obtain ⟨e0, e1, e2, e3⟩ := pa_yes k rfl; exact .inl ⟨rfl, e0.symm, e1.symm, e2.symm, e3.symm⟩
  | false => rw [atext_bad k]; obtain ⟨e0, e1, e2, e3⟩ := pa_no (sp0_none (l := []) (by simp)); exact .inr ⟨rfl, e0.symm, e1.symm, e2.symm, e3.symm⟩
theorem read_case (l : List UInt8) : (okA (paH l) (paP l) (paQ l) = true ∧ atext (paH l) (paP l) (paQ l) = l ∧ true = paY l) ∨ false = paY l := by
  cases k : paY l with
  | true => exact .inl ⟨(pa_valid k).1, (pa_valid k).2, rfl⟩
  | false => exact .inr rfl

set_option maxHeartbeats 4000000 in
set_option maxRecDepth 100000 in
theorem law_walk (a : Option Addr) (n c : Nat) (w : World) (hb : Bytes w.heap.size w a n) (ht : Tab w) (hE : Errs w) :
    Calls Tryd.prog 3 #[.slice a n c] w fun e w' => e = .returned (.bool true) ∧ Below w.heap.size w w' := by
  have hn := hb.1
  by_cases hbig : 1048576 < n
  · go_enter Tryd.func3, Tryd.ntmps3
    go_wp2
    go_ret
    exact ⟨rfl, Below.refl _ _⟩
  go_enter Tryd.func3, Tryd.ntmps3
  go_wp2_with (go_at_call 6; go_in)
  go_at_call 7
  refine (draw_is _ a n c _ hb (Nat.le_refl _)).mono ?_
  rintro e w1 ⟨⟨h, p, q, hh, hp, hq, rfl⟩, hb1⟩
  have hB1 := hb1.alloc hb1.size (.cells #[.int .i64 h, .int .i64 p, .int .i64 q] 25)
  have bx1 := box_new w1 25 h p q
  go_wp2_with fail
  go_at_call 9
  refine (text_impl h p q _ hh.1 hh.2 hp.1 hp.2 hq.1 hq.2 (ht.on hB1)).mono ?_
  rintro e w2 ⟨rfl, hb2⟩
  have hB2 := hB1.trans (hb2.mono hB1.size)
  have bx2 := bx1.below hb2
  have hl : (⟨(atext h p q).toArray⟩ : ByteArray).size ≤ 62 := by
    show (atext h p q).toArray.size ≤ 62
    simpa using atext_len h p q
  have hP := parse_impl ⟨(atext h p q).toArray⟩ w2 (by omega) (ht.on hB2) (hE.on hB2)
  rw [show (⟨(atext h p q).toArray⟩ : ByteArray).data.toList = atext h p q by simp] at hP
  have hk := text_case h p q
  generalize paH (atext h p q) = X at hP hk
  generalize paP (atext h p q) = Y at hP hk
  generalize paQ (atext h p q) = Z at hP hk
  generalize paY (atext h p q) = O at hP hk
  generalize (⟨(atext h p q).toArray⟩ : ByteArray) = T at hP hl
  have HK := Lib.hid hk
  clear hk hl bx1 hb1 hb2
  go_wp2_with fail
  go_at_call 8
  refine hP.mono ?_
  rintro e w3 ⟨rfl, hb3⟩
  have hB3 := hB2.trans (hb3.mono hB2.size)
  have bx3 := bx2.below hb3
  have hs3 := bx3.lt
  clear hP bx2 hb3
  go_upto_region 5 with fail
  go_cut [33] (fun s33 wx => s33 = .bool false ∧ Below w.heap.size w wx)
  case first =>
    have hB4 := hB3.alloc hB3.size (.cells #[.int .i64 X, .int .i64 Y, .int .i64 Z] 25)
    have bx4 := bx3.alloc (.cells #[.int .i64 X, .int .i64 Y, .int .i64 Z] 25)
    have by4 := box_new w3 25 X Y Z
    obtain ⟨c0, c1, c2⟩ := bx3.alloc (.cells #[.int .i64 X, .int .i64 Y, .int .i64 Z] 25)
    have hi := is_impl h p q (w3.alloc (.cells #[.int .i64 X, .int .i64 Y, .int .i64 Z] 25))
    rcases HK.out with ⟨k, e0, e1, e2, e3⟩ | ⟨k, e0, e1, e2, e3⟩
    · subst e0 e1 e2 e3
      rw [k] at hi
      go_wp2_with (go_at_call 10; refine hi.mono ?_; rintro e w4 ⟨rfl, hb4⟩; obtain ⟨d0, d1, d2⟩ := bx4.below hb4; obtain ⟨g0, g1, g2⟩ := by4.below hb4)
      go_meet
      case rel => exact ⟨rfl, hB4.trans (hb4.mono hB4.size)⟩
    · subst e0 e1 e2 e3
      rw [k] at hi
      go_wp2_with (go_at_call 10; refine hi.mono ?_; rintro e w4 ⟨rfl, hb4⟩)
      go_meet
      case rel => exact ⟨rfl, hB4.trans (hb4.mono hB4.size)⟩
  case rest =>
  obtain ⟨rfl, hBx⟩ := hcut
  have hbx := hb.below hBx
  clear bx3 hB3 hs3 HK hB1 hB2
  go_wp2_with fail
  go_at_call 11
  refine (draw_text _ a n c _ hbx hBx.size).mono ?_
  rintro e w5 ⟨⟨T, hT, rfl⟩, hb5⟩
  have hB5 := hBx.trans (hb5.mono hBx.size)
  have hP := parse_impl T w5 (by omega) (ht.on hB5) (hE.on hB5)
  have HK := Lib.hid (read_case T.data.toList)
  generalize paH T.data.toList = X at hP HK
  generalize paP T.data.toList = Y at hP HK
  generalize paQ T.data.toList = Z at hP HK
  generalize paY T.data.toList = O at hP HK
  clear hBx hb5 hT
  go_wp2_with fail
  go_at_call 8
  refine hP.mono ?_
  rintro e w6 ⟨rfl, hb6⟩
  have hB6 := hB5.trans (hb6.mono hB5.size)
  clear hP hb6 hB5
  go_upto_region 9 with fail
  go_cut [47] (fun s47 wx => s47 = .bool false ∧ Below w.heap.size w wx)
  case first =>
    have hB7 := hB6.alloc hB6.size (.cells #[.int .i64 X, .int .i64 Y, .int .i64 Z] 25)
    rcases HK.out with ⟨k, e0, e3⟩ | e3
    · obtain ⟨l0, u0, l1, u1, l2, u2⟩ := okA_iff.1 k
      subst e3
      have hi := text_impl X Y Z (w6.alloc (.cells #[.int .i64 X, .int .i64 Y, .int .i64 Z] 25)) (by omega) (by omega) (by omega) (by omega) (by omega) (by omega) (ht.on hB7)
      have hcmp : (atext X Y Z == T.toList) = true := by rw [Lib.toList_data, e0]; simp
      clear e0
      go_wp2_with (go_at_call 9; refine hi.mono ?_; rintro e w7 ⟨rfl, hb7⟩)
      go_meet
      case rel => exact ⟨rfl, hB7.trans (hb7.mono hB7.size)⟩
    · subst e3
      go_wp2_with fail
      go_meet
      case rel => exact ⟨rfl, hB7⟩
  case rest =>
  obtain ⟨rfl, hBy⟩ := hcut
  have hby := hb.below hBy
  clear hB6 HK hbx
  go_wp2_with fail
  go_at_call 12
  refine (draw_two _ a n c _ hby hBy.size).mono ?_
  rintro e w8 ⟨⟨h0, p0, q0, h1, p1, q1, hh0, hp0, hq0, hh1, hp1, hq1, rfl⟩, hb8⟩
  have hB8 := hBy.trans (hb8.mono hBy.size)
  clear hBy hb8 hby
  have bx := (box_new w8 25 h0 p0 q0).alloc (.cells #[.int .i64 h1, .int .i64 p1, .int .i64 q1] 25)
  have bz := box_new (w8.alloc (.cells #[.int .i64 h0, .int .i64 p0, .int .i64 q0] 25)) 25 h1 p1 q1
  rw [size_alloc] at bz
  have bB : Below w.heap.size w ((w8.alloc (.cells #[.int .i64 h0, .int .i64 p0, .int .i64 q0] 25)).alloc (.cells #[.int .i64 h1, .int .i64 p1, .int .i64 q1] 25)) := (hB8.alloc hB8.size _).alloc (hB8.alloc hB8.size _).size _
  clear hB8 hh0 hp0 hq0 hh1 hp1 hq1
  by_cases n0 : h0 = h1
  · subst n0
    by_cases n1 : p0 = p1
    · subst n1
      by_cases n2 : q0 = q1
      · subst n2
        have hd0 : dist h0 p0 q0 h0 p0 q0 = 0 := by simp [dist, eqn]
        have hd1 : dist h0 p0 q0 h0 p0 q0 = 0 := by simp [dist, eqn]
        have hf : bef h0 p0 q0 h0 p0 q0 = false := bef_same _ _ _
        go_wp2_with fail
        go_at_call 13
        refine (dist_impl _ _ _ _ _ _ _).mono ?_
        rintro e w9 ⟨rfl, hb9⟩
        obtain ⟨c0, c1, c2⟩ := bx.below hb9
        obtain ⟨d0, d1, d2⟩ := bz.below hb9
        have bB : Below w.heap.size w w9 := bB.trans (hb9.mono bB.size)
        clear bx bz hb9
        go_wp2_with fail
        go_cut [11, 87] (fun s11 s87 wx => s87 = .bool false ∧ ((fun w' => w'.cell? ⟨w8.heap.size, 0, none⟩ = some (.int .i64 h0) ∧ w'.cell? ⟨w8.heap.size, 1, none⟩ = some (.int .i64 p0) ∧ w'.cell? ⟨w8.heap.size, 2, none⟩ = some (.int .i64 q0) ∧ w'.cell? ⟨w8.heap.size + 1, 0, none⟩ = some (.int .i64 h0) ∧ w'.cell? ⟨w8.heap.size + 1, 1, none⟩ = some (.int .i64 p0) ∧ w'.cell? ⟨w8.heap.size + 1, 2, none⟩ = some (.int .i64 q0))) wx ∧ Below w.heap.size w wx)
        case first =>
          go_region_held3 (fun w' => w'.cell? ⟨w8.heap.size, 0, none⟩ = some (.int .i64 h0) ∧ w'.cell? ⟨w8.heap.size, 1, none⟩ = some (.int .i64 p0) ∧ w'.cell? ⟨w8.heap.size, 2, none⟩ = some (.int .i64 q0) ∧ w'.cell? ⟨w8.heap.size + 1, 0, none⟩ = some (.int .i64 h0) ∧ w'.cell? ⟨w8.heap.size + 1, 1, none⟩ = some (.int .i64 p0) ∧ w'.cell? ⟨w8.heap.size + 1, 2, none⟩ = some (.int .i64 q0))
            (first | exact s3 | assumption | exact ⟨c0, c1, c2, d0, d1, d2⟩ | go_keep)
            (first
            | (go_at_call 13; refine (dist_impl _ _ _ _ _ _ _).mono ?_; rintro e w3 ⟨rfl, hb3⟩; have s3 := six_below hb3 (by assumption); have bB : Below w.heap.size w w3 := (by first | exact bB.trans (hb3.mono bB.size) | exact bB.drew.trans (hb3.mono bB.size)))
            | (go_at_call 14; refine (without_impl _ _ _ _).mono ?_; rintro e w3 ⟨rfl, hb3⟩; have s3 := six_below hb3 (by assumption); have bB : Below w.heap.size w w3 := (by first | exact bB.trans (hb3.mono bB.size) | exact bB.drew.trans (hb3.mono bB.size))))
          all_goals
            go_wp2_with fail
            go_meet
            case rel => exact ⟨rfl, s3, bB⟩
        case rest =>
        obtain ⟨rfl, ⟨c0, c1, c2, d0, d1, d2⟩, bB⟩ := hcut
        go_wp2_with fail
        go_region_held3 (fun w' => w'.cell? ⟨w8.heap.size, 0, none⟩ = some (.int .i64 h0) ∧ w'.cell? ⟨w8.heap.size, 1, none⟩ = some (.int .i64 p0) ∧ w'.cell? ⟨w8.heap.size, 2, none⟩ = some (.int .i64 q0) ∧ w'.cell? ⟨w8.heap.size + 1, 0, none⟩ = some (.int .i64 h0) ∧ w'.cell? ⟨w8.heap.size + 1, 1, none⟩ = some (.int .i64 p0) ∧ w'.cell? ⟨w8.heap.size + 1, 2, none⟩ = some (.int .i64 q0))
          (first | exact s3 | assumption | exact ⟨c0, c1, c2, d0, d1, d2⟩ | go_keep)
          (first | (go_at_call 15; refine (before_impl _ _ _ _ _ _ _).mono ?_; rintro e w3 ⟨rfl, hb3⟩; have s3 := six_below hb3 (by assumption); have bB : Below w.heap.size w w3 := (by first | exact bB.trans (hb3.mono bB.size) | exact bB.drew.trans (hb3.mono bB.size))))
        all_goals
          go_wp2
          go_ret
          exact ⟨rfl, bB⟩
      · skip
        have m2 : ¬ q1 = q0 := fun e => n2 e.symm
        have hd0 : dist h0 p0 q0 h0 p0 q1 = 1 := by simp [dist, eqn, *]
        have hd1 : dist h0 p0 q1 h0 p0 q0 = 1 := by simp [dist, eqn, *]
        have hf : bef h0 p0 q1 h0 p0 q0 = !bef h0 p0 q0 h0 p0 q1 := bef_flip (by simp [*])
        go_wp2_with fail
        go_at_call 13
        refine (dist_impl _ _ _ _ _ _ _).mono ?_
        rintro e w9 ⟨rfl, hb9⟩
        obtain ⟨c0, c1, c2⟩ := bx.below hb9
        obtain ⟨d0, d1, d2⟩ := bz.below hb9
        have bB : Below w.heap.size w w9 := bB.trans (hb9.mono bB.size)
        clear bx bz hb9
        go_wp2_with fail
        go_cut [11, 87] (fun s11 s87 wx => s87 = .bool false ∧ ((fun w' => w'.cell? ⟨w8.heap.size, 0, none⟩ = some (.int .i64 h0) ∧ w'.cell? ⟨w8.heap.size, 1, none⟩ = some (.int .i64 p0) ∧ w'.cell? ⟨w8.heap.size, 2, none⟩ = some (.int .i64 q0) ∧ w'.cell? ⟨w8.heap.size + 1, 0, none⟩ = some (.int .i64 h0) ∧ w'.cell? ⟨w8.heap.size + 1, 1, none⟩ = some (.int .i64 p0) ∧ w'.cell? ⟨w8.heap.size + 1, 2, none⟩ = some (.int .i64 q1))) wx ∧ Below w.heap.size w wx)
        case first =>
          go_region_held3 (fun w' => w'.cell? ⟨w8.heap.size, 0, none⟩ = some (.int .i64 h0) ∧ w'.cell? ⟨w8.heap.size, 1, none⟩ = some (.int .i64 p0) ∧ w'.cell? ⟨w8.heap.size, 2, none⟩ = some (.int .i64 q0) ∧ w'.cell? ⟨w8.heap.size + 1, 0, none⟩ = some (.int .i64 h0) ∧ w'.cell? ⟨w8.heap.size + 1, 1, none⟩ = some (.int .i64 p0) ∧ w'.cell? ⟨w8.heap.size + 1, 2, none⟩ = some (.int .i64 q1))
            (first | exact s3 | assumption | exact ⟨c0, c1, c2, d0, d1, d2⟩ | go_keep)
            (first
            | (go_at_call 13; refine (dist_impl _ _ _ _ _ _ _).mono ?_; rintro e w3 ⟨rfl, hb3⟩; have s3 := six_below hb3 (by assumption); have bB : Below w.heap.size w w3 := (by first | exact bB.trans (hb3.mono bB.size) | exact bB.drew.trans (hb3.mono bB.size)))
            | (go_at_call 14; refine (without_impl _ _ _ _).mono ?_; rintro e w3 ⟨rfl, hb3⟩; have s3 := six_below hb3 (by assumption); have bB : Below w.heap.size w w3 := (by first | exact bB.trans (hb3.mono bB.size) | exact bB.drew.trans (hb3.mono bB.size))))
          all_goals
            go_wp2_with fail
            go_meet
            case rel => exact ⟨rfl, s3, bB⟩
        case rest =>
        obtain ⟨rfl, ⟨c0, c1, c2, d0, d1, d2⟩, bB⟩ := hcut
        go_wp2_with fail
        go_region_held3 (fun w' => w'.cell? ⟨w8.heap.size, 0, none⟩ = some (.int .i64 h0) ∧ w'.cell? ⟨w8.heap.size, 1, none⟩ = some (.int .i64 p0) ∧ w'.cell? ⟨w8.heap.size, 2, none⟩ = some (.int .i64 q0) ∧ w'.cell? ⟨w8.heap.size + 1, 0, none⟩ = some (.int .i64 h0) ∧ w'.cell? ⟨w8.heap.size + 1, 1, none⟩ = some (.int .i64 p0) ∧ w'.cell? ⟨w8.heap.size + 1, 2, none⟩ = some (.int .i64 q1))
          (first | exact s3 | assumption | exact ⟨c0, c1, c2, d0, d1, d2⟩ | go_keep)
          (first | (go_at_call 15; refine (before_impl _ _ _ _ _ _ _).mono ?_; rintro e w3 ⟨rfl, hb3⟩; have s3 := six_below hb3 (by assumption); have bB : Below w.heap.size w w3 := (by first | exact bB.trans (hb3.mono bB.size) | exact bB.drew.trans (hb3.mono bB.size))))
        all_goals
          go_wp2
          go_ret
          exact ⟨rfl, bB⟩
    · skip
      have m1 : ¬ p1 = p0 := fun e => n1 e.symm
      have hd0 : dist h0 p0 q0 h0 p1 q1 = 2 := by simp [dist, eqn, *]
      have hd1 : dist h0 p1 q1 h0 p0 q0 = 2 := by simp [dist, eqn, *]
      have hf : bef h0 p1 q1 h0 p0 q0 = !bef h0 p0 q0 h0 p1 q1 := bef_flip (by simp [*])
      go_wp2_with fail
      go_at_call 13
      refine (dist_impl _ _ _ _ _ _ _).mono ?_
      rintro e w9 ⟨rfl, hb9⟩
      obtain ⟨c0, c1, c2⟩ := bx.below hb9
      obtain ⟨d0, d1, d2⟩ := bz.below hb9
      have bB : Below w.heap.size w w9 := bB.trans (hb9.mono bB.size)
      clear bx bz hb9
      go_wp2_with fail
      go_cut [11, 87] (fun s11 s87 wx => s87 = .bool false ∧ ((fun w' => w'.cell? ⟨w8.heap.size, 0, none⟩ = some (.int .i64 h0) ∧ w'.cell? ⟨w8.heap.size, 1, none⟩ = some (.int .i64 p0) ∧ w'.cell? ⟨w8.heap.size, 2, none⟩ = some (.int .i64 q0) ∧ w'.cell? ⟨w8.heap.size + 1, 0, none⟩ = some (.int .i64 h0) ∧ w'.cell? ⟨w8.heap.size + 1, 1, none⟩ = some (.int .i64 p1) ∧ w'.cell? ⟨w8.heap.size + 1, 2, none⟩ = some (.int .i64 q1))) wx ∧ Below w.heap.size w wx)
      case first =>
        refine wp_region_held_drew (S := (fun w' => w'.cell? ⟨w8.heap.size, 0, none⟩ = some (.int .i64 h0) ∧ w'.cell? ⟨w8.heap.size, 1, none⟩ = some (.int .i64 p0) ∧ w'.cell? ⟨w8.heap.size, 2, none⟩ = some (.int .i64 q0) ∧ w'.cell? ⟨w8.heap.size + 1, 0, none⟩ = some (.int .i64 h0) ∧ w'.cell? ⟨w8.heap.size + 1, 1, none⟩ = some (.int .i64 p1) ∧ w'.cell? ⟨w8.heap.size + 1, 2, none⟩ = some (.int .i64 q1))) (by kernel_rfl) ⟨c0, c1, c2, d0, d1, d2⟩ (fun hHeld => ?_)
        refine wpAnyH_take (i := 0) (v := ?v2x0) (List.getElem?_toArray.trans rfl) (by kernel_rfl) (by kernel_rfl) (by kernel_rfl) (fun _ _ _ h => h) (Or.inl ⟨by rfl, ?y2x0⟩) (by assumption) ?r2x0
        case y2x0 => (intro w hSw; (try dsimp only at hSw); go_simp; try with_reducible rfl)
        try simp only [Act.put, List.setIfInBounds_toArray, List.set_cons_zero, List.set_cons_succ]
        refine wpAnyH_take (i := 1) (v := ?v2x1) (List.getElem?_toArray.trans rfl) (by kernel_rfl) (by kernel_rfl) (by kernel_rfl) (fun _ _ _ h => h) (Or.inl ⟨by rfl, ?y2x1⟩) (by assumption) ?r2x1
        case y2x1 => (intro w hSw; (try dsimp only at hSw); go_simp; try with_reducible rfl)
        try simp only [Act.put, List.setIfInBounds_toArray, List.set_cons_zero, List.set_cons_succ]
        refine wpAnyH_take (i := 2) (v := ?v2x2) (List.getElem?_toArray.trans rfl) (by kernel_rfl) (by kernel_rfl) (by kernel_rfl) (fun _ _ _ h => h) (Or.inl ⟨by rfl, ?y2x2⟩) (by assumption) ?r2x2
        case y2x2 => (intro w hSw; (try dsimp only at hSw); go_simp; try with_reducible rfl)
        try simp only [Act.put, List.setIfInBounds_toArray, List.set_cons_zero, List.set_cons_succ]
        refine wpAnyH_ready (rs := [3]) (by kernel_rfl) (by simp) ?_
        refine AllReadyH.cons (List.getElem?_toArray.trans rfl) (fun K hK => ?_) AllReadyH.nil
        go_simp
        go_at_call 13; refine (dist_impl _ _ _ _ _ _ _).mono ?_; rintro e w3 ⟨rfl, hb3⟩; have s3 := six_below hb3 (by assumption); have bB : Below w.heap.size w w3 := (by first | exact bB.trans (hb3.mono bB.size) | exact bB.drew.trans (hb3.mono bB.size))
        refine hK.out _ _ s3 (fun hHeld => ?_)
        clear hK K
        try simp only [Act.put, List.setIfInBounds_toArray, List.set_cons_zero, List.set_cons_succ]
        refine wpAnyH_take (i := 4) (v := ?v2x4) (List.getElem?_toArray.trans rfl) (by kernel_rfl) (by kernel_rfl) (by kernel_rfl) (fun _ _ _ h => h) (Or.inl ⟨by rfl, ?y2x4⟩) (by assumption) ?r2x4
        case y2x4 => (intro w hSw; (try dsimp only at hSw); go_simp; try with_reducible rfl)
        try simp only [Act.put, List.setIfInBounds_toArray, List.set_cons_zero, List.set_cons_succ]
        refine wpAnyH_take (i := 5) (v := ?v2x5) (List.getElem?_toArray.trans rfl) (by kernel_rfl) (by kernel_rfl) (by kernel_rfl) (fun _ _ _ h => h) (Or.inl ⟨by rfl, ?y2x5⟩) (by assumption) ?r2x5
        case y2x5 => (intro w hSw; (try dsimp only at hSw); go_simp; try with_reducible rfl)
        try simp only [Act.put, List.setIfInBounds_toArray, List.set_cons_zero, List.set_cons_succ]
        refine wpAnyH_take (i := 6) (v := ?v2x6) (List.getElem?_toArray.trans rfl) (by kernel_rfl) (by kernel_rfl) (by kernel_rfl) (fun _ _ _ h => h) (Or.inl ⟨by rfl, ?y2x6⟩) (by assumption) ?r2x6
        case y2x6 => (intro w hSw; (try dsimp only at hSw); go_simp; try with_reducible rfl)
        try simp only [Act.put, List.setIfInBounds_toArray, List.set_cons_zero, List.set_cons_succ]
        refine wpAnyH_take (i := 7) (v := ?v2x7) (List.getElem?_toArray.trans rfl) (by kernel_rfl) (by kernel_rfl) (by kernel_rfl) (fun _ _ _ h => h) (Or.inl ⟨by rfl, ?y2x7⟩) (by assumption) ?r2x7
        case y2x7 => (intro w hSw; (try dsimp only at hSw); go_simp; try with_reducible rfl)
        try simp only [Act.put, List.setIfInBounds_toArray, List.set_cons_zero, List.set_cons_succ]
        refine wpAnyH_take (i := 8) (v := ?v2x8) (List.getElem?_toArray.trans rfl) (by kernel_rfl) (by kernel_rfl) (by kernel_rfl) (fun _ _ _ h => h) (Or.inl ⟨by rfl, ?y2x8⟩) (by assumption) ?r2x8
        case y2x8 => (intro w hSw; (try dsimp only at hSw); go_simp; try with_reducible rfl)
        try simp only [Act.put, List.setIfInBounds_toArray, List.set_cons_zero, List.set_cons_succ]
        refine wpAnyH_take (i := 9) (v := ?v2x9) (List.getElem?_toArray.trans rfl) (by kernel_rfl) (by kernel_rfl) (by kernel_rfl) (fun _ _ _ h => h) (Or.inl ⟨by rfl, ?y2x9⟩) (by assumption) ?r2x9
        case y2x9 => (intro w hSw; (try dsimp only at hSw); go_simp; try with_reducible rfl)
        try simp only [Act.put, List.setIfInBounds_toArray, List.set_cons_zero, List.set_cons_succ]
        refine wpAnyH_take (i := 10) (v := ?v2x10) (List.getElem?_toArray.trans rfl) (by kernel_rfl) (by kernel_rfl) (by kernel_rfl) (fun _ _ _ h => h) (Or.inl ⟨by rfl, ?y2x10⟩) (by assumption) ?r2x10
        case y2x10 => (intro w hSw; (try dsimp only at hSw); go_simp; try with_reducible rfl)
        try simp only [Act.put, List.setIfInBounds_toArray, List.set_cons_zero, List.set_cons_succ]
        refine wpAnyH_take (i := 11) (v := ?v2x11) (List.getElem?_toArray.trans rfl) (by kernel_rfl) (by kernel_rfl) (by kernel_rfl) (fun _ _ _ h => h) (Or.inl ⟨by rfl, ?y2x11⟩) (by assumption) ?r2x11
        case y2x11 => (intro w hSw; (try dsimp only at hSw); go_simp; try with_reducible rfl)
        try simp only [Act.put, List.setIfInBounds_toArray, List.set_cons_zero, List.set_cons_succ]
        refine wpAnyH_take (i := 12) (v := ?v2x12) (List.getElem?_toArray.trans rfl) (by kernel_rfl) (by kernel_rfl) (by kernel_rfl) (fun _ _ _ h => h) (Or.inl ⟨by rfl, ?y2x12⟩) (by assumption) ?r2x12
        case y2x12 => (intro w hSw; (try dsimp only at hSw); go_simp; try with_reducible rfl)
        try simp only [Act.put, List.setIfInBounds_toArray, List.set_cons_zero, List.set_cons_succ]
        refine wpAnyH_take (i := 13) (v := ?v2x13) (List.getElem?_toArray.trans rfl) (by kernel_rfl) (by kernel_rfl) (by kernel_rfl) (fun _ _ _ h => h) (Or.inl ⟨by rfl, ?y2x13⟩) (by assumption) ?r2x13
        case y2x13 => (intro w hSw; (try dsimp only at hSw); go_simp; try with_reducible rfl)
        try simp only [Act.put, List.setIfInBounds_toArray, List.set_cons_zero, List.set_cons_succ]
        refine wpAnyH_take (i := 14) (v := ?v2x14) (List.getElem?_toArray.trans rfl) (by kernel_rfl) (by kernel_rfl) (by kernel_rfl) (fun _ _ _ h => h) (Or.inl ⟨by rfl, ?y2x14⟩) (by assumption) ?r2x14
        case y2x14 => (intro w hSw; (try dsimp only at hSw); go_simp; try with_reducible rfl)
        try simp only [Act.put, List.setIfInBounds_toArray, List.set_cons_zero, List.set_cons_succ]
        refine wpAnyH_take (i := 15) (v := ?v2x15) (List.getElem?_toArray.trans rfl) (by kernel_rfl) (by kernel_rfl) (by kernel_rfl) (fun _ _ _ h => h) (Or.inl ⟨by rfl, ?y2x15⟩) (by assumption) ?r2x15
        case y2x15 => (intro w hSw; (try dsimp only at hSw); go_simp; try with_reducible rfl)
        try simp only [Act.put, List.setIfInBounds_toArray, List.set_cons_zero, List.set_cons_succ]
        refine wpAnyH_take (i := 16) (v := ?v2x16) (List.getElem?_toArray.trans rfl) (by kernel_rfl) (by kernel_rfl) (by kernel_rfl) (fun _ _ _ h => h) (Or.inl ⟨by rfl, ?y2x16⟩) (by assumption) ?r2x16
        case y2x16 => (intro w hSw; (try dsimp only at hSw); go_simp; try with_reducible rfl)
        try simp only [Act.put, List.setIfInBounds_toArray, List.set_cons_zero, List.set_cons_succ]
        refine wpAnyH_take (i := 17) (v := ?v2x17) (List.getElem?_toArray.trans rfl) (by kernel_rfl) (by kernel_rfl) (by kernel_rfl) (fun _ _ _ h => h) (Or.inl ⟨by rfl, ?y2x17⟩) (by assumption) ?r2x17
        case y2x17 => (intro w hSw; (try dsimp only at hSw); go_simp; try with_reducible rfl)
        try simp only [Act.put, List.setIfInBounds_toArray, List.set_cons_zero, List.set_cons_succ]
        refine wpAnyH_take (i := 18) (v := ?v2x18) (List.getElem?_toArray.trans rfl) (by kernel_rfl) (by kernel_rfl) (by kernel_rfl) (fun _ _ _ h => h) (Or.inl ⟨by rfl, ?y2x18⟩) (by assumption) ?r2x18
        case y2x18 => (intro w hSw; (try dsimp only at hSw); go_simp; try with_reducible rfl)
        try simp only [Act.put, List.setIfInBounds_toArray, List.set_cons_zero, List.set_cons_succ]
        refine wpAnyH_take (i := 19) (v := ?v2x19) (List.getElem?_toArray.trans rfl) (by kernel_rfl) (by kernel_rfl) (by kernel_rfl) (fun _ _ _ h => h) (Or.inl ⟨by rfl, ?y2x19⟩) (by assumption) ?r2x19
        case y2x19 => (intro w hSw; (try dsimp only at hSw); go_simp; try with_reducible rfl)
        try simp only [Act.put, List.setIfInBounds_toArray, List.set_cons_zero, List.set_cons_succ]
        refine wpAnyH_take (i := 20) (v := ?v2x20) (List.getElem?_toArray.trans rfl) (by kernel_rfl) (by kernel_rfl) (by kernel_rfl) (fun _ _ _ h => h) (Or.inl ⟨by rfl, ?y2x20⟩) (by assumption) ?r2x20
        case y2x20 => (intro w hSw; (try dsimp only at hSw); go_simp; try with_reducible rfl)
        try simp only [Act.put, List.setIfInBounds_toArray, List.set_cons_zero, List.set_cons_succ]
        refine wpAnyH_take (i := 21) (v := ?v2x21) (List.getElem?_toArray.trans rfl) (by kernel_rfl) (by kernel_rfl) (by kernel_rfl) (fun _ _ _ h => h) (Or.inl ⟨by rfl, ?y2x21⟩) (by assumption) ?r2x21
        case y2x21 => (intro w hSw; (try dsimp only at hSw); go_simp; try with_reducible rfl)
        try simp only [Act.put, List.setIfInBounds_toArray, List.set_cons_zero, List.set_cons_succ]
        refine wpAnyH_take (i := 22) (v := ?v2x22) (List.getElem?_toArray.trans rfl) (by kernel_rfl) (by kernel_rfl) (by kernel_rfl) (fun _ _ _ h => h) (Or.inl ⟨by rfl, ?y2x22⟩) (by assumption) ?r2x22
        case y2x22 => (intro w hSw; (try dsimp only at hSw); go_simp; try with_reducible rfl)
        try simp only [Act.put, List.setIfInBounds_toArray, List.set_cons_zero, List.set_cons_succ]
        refine wpAnyH_take (i := 23) (v := ?v2x23) (List.getElem?_toArray.trans rfl) (by kernel_rfl) (by kernel_rfl) (by kernel_rfl) (fun _ _ _ h => h) (Or.inl ⟨by rfl, ?y2x23⟩) (by assumption) ?r2x23
        case y2x23 => (intro w hSw; (try dsimp only at hSw); go_simp; try with_reducible rfl)
        try simp only [Act.put, List.setIfInBounds_toArray, List.set_cons_zero, List.set_cons_succ]
        refine wpAnyH_take (i := 24) (v := ?v2x24) (List.getElem?_toArray.trans rfl) (by kernel_rfl) (by kernel_rfl) (by kernel_rfl) (fun _ _ _ h => h) (Or.inl ⟨by rfl, ?y2x24⟩) (by assumption) ?r2x24
        case y2x24 => (intro w hSw; (try dsimp only at hSw); go_simp; try with_reducible rfl)
        try simp only [Act.put, List.setIfInBounds_toArray, List.set_cons_zero, List.set_cons_succ]
        refine wpAnyH_take (i := 25) (v := undef) (List.getElem?_toArray.trans rfl) (by kernel_rfl) (by kernel_rfl) (by kernel_rfl) (fun _ _ _ h => h) (Or.inr ⟨by simp [Region.wanted, yielded], rfl⟩) (by assumption) ?_
        try simp only [Act.put, List.setIfInBounds_toArray, List.set_cons_zero, List.set_cons_succ]
        refine wpAnyH_take (i := 26) (v := undef) (List.getElem?_toArray.trans rfl) (by kernel_rfl) (by kernel_rfl) (by kernel_rfl) (fun _ _ _ h => h) (Or.inr ⟨by simp [Region.wanted, yielded], rfl⟩) (by assumption) ?_
        try simp only [Act.put, List.setIfInBounds_toArray, List.set_cons_zero, List.set_cons_succ]
        refine wpAnyH_take (i := 27) (v := undef) (List.getElem?_toArray.trans rfl) (by kernel_rfl) (by kernel_rfl) (by kernel_rfl) (fun _ _ _ h => h) (Or.inr ⟨by simp [Region.wanted, yielded], rfl⟩) (by assumption) ?_
        try simp only [Act.put, List.setIfInBounds_toArray, List.set_cons_zero, List.set_cons_succ]
        refine wpAnyH_take (i := 28) (v := undef) (List.getElem?_toArray.trans rfl) (by kernel_rfl) (by kernel_rfl) (by kernel_rfl) (fun _ _ _ h => h) (Or.inr ⟨by simp [Region.wanted, yielded], rfl⟩) (by assumption) ?_
        try simp only [Act.put, List.setIfInBounds_toArray, List.set_cons_zero, List.set_cons_succ]
        refine wpAnyH_take (i := 29) (v := undef) (List.getElem?_toArray.trans rfl) (by kernel_rfl) (by kernel_rfl) (by kernel_rfl) (fun _ _ _ h => h) (Or.inr ⟨by simp [Region.wanted, yielded], rfl⟩) (by assumption) ?_
        try simp only [Act.put, List.setIfInBounds_toArray, List.set_cons_zero, List.set_cons_succ]
        refine wpAnyH_take (i := 30) (v := ?v2x30) (List.getElem?_toArray.trans rfl) (by kernel_rfl) (by kernel_rfl) (by kernel_rfl) (fun _ _ _ h => h) (Or.inl ⟨by rfl, ?y2x30⟩) (by assumption) ?r2x30
        case y2x30 => (intro w hSw; (try dsimp only at hSw); go_simp; try with_reducible rfl)
        try simp only [Act.put, List.setIfInBounds_toArray, List.set_cons_zero, List.set_cons_succ]
        refine wpAnyH_take (i := 31) (v := ?v2x31) (List.getElem?_toArray.trans rfl) (by kernel_rfl) (by kernel_rfl) (by kernel_rfl) (fun _ _ _ h => h) (Or.inl ⟨by rfl, ?y2x31⟩) (by assumption) ?r2x31
        case y2x31 => (intro w hSw; (try dsimp only at hSw); go_simp; try with_reducible rfl)
        try simp only [Act.put, List.setIfInBounds_toArray, List.set_cons_zero, List.set_cons_succ]
        refine wpAnyH_done (by kernel_rfl) ?_ _
        all_goals
          go_wp2_with fail
          go_meet
          case rel => exact ⟨rfl, s3, bB⟩
      case rest =>
      obtain ⟨rfl, ⟨c0, c1, c2, d0, d1, d2⟩, bB⟩ := hcut
      go_wp2_with fail
      go_region_held3 (fun w' => w'.cell? ⟨w8.heap.size, 0, none⟩ = some (.int .i64 h0) ∧ w'.cell? ⟨w8.heap.size, 1, none⟩ = some (.int .i64 p0) ∧ w'.cell? ⟨w8.heap.size, 2, none⟩ = some (.int .i64 q0) ∧ w'.cell? ⟨w8.heap.size + 1, 0, none⟩ = some (.int .i64 h0) ∧ w'.cell? ⟨w8.heap.size + 1, 1, none⟩ = some (.int .i64 p1) ∧ w'.cell? ⟨w8.heap.size + 1, 2, none⟩ = some (.int .i64 q1))
        (first | exact s3 | assumption | exact ⟨c0, c1, c2, d0, d1, d2⟩ | go_keep)
        (first | (go_at_call 15; refine (before_impl _ _ _ _ _ _ _).mono ?_; rintro e w3 ⟨rfl, hb3⟩; have s3 := six_below hb3 (by assumption); have bB : Below w.heap.size w w3 := (by first | exact bB.trans (hb3.mono bB.size) | exact bB.drew.trans (hb3.mono bB.size))))
      all_goals
        go_wp2
        go_ret
        exact ⟨rfl, bB⟩
  · skip
    have m0 : ¬ h1 = h0 := fun e => n0 e.symm
    have hd0 : dist h0 p0 q0 h1 p1 q1 = 3 := by simp [dist, eqn, *]
    have hd1 : dist h1 p1 q1 h0 p0 q0 = 3 := by simp [dist, eqn, *]
    have hf : bef h1 p1 q1 h0 p0 q0 = !bef h0 p0 q0 h1 p1 q1 := bef_flip (by simp [*])
    go_wp2_with fail
    go_at_call 13
    refine (dist_impl _ _ _ _ _ _ _).mono ?_
    rintro e w9 ⟨rfl, hb9⟩
    obtain ⟨c0, c1, c2⟩ := bx.below hb9
    obtain ⟨d0, d1, d2⟩ := bz.below hb9
    have bB : Below w.heap.size w w9 := bB.trans (hb9.mono bB.size)
    clear bx bz hb9
    go_wp2_with fail
    go_cut [11, 87] (fun s11 s87 wx => s87 = .bool false ∧ ((fun w' => w'.cell? ⟨w8.heap.size, 0, none⟩ = some (.int .i64 h0) ∧ w'.cell? ⟨w8.heap.size, 1, none⟩ = some (.int .i64 p0) ∧ w'.cell? ⟨w8.heap.size, 2, none⟩ = some (.int .i64 q0) ∧ w'.cell? ⟨w8.heap.size + 1, 0, none⟩ = some (.int .i64 h1) ∧ w'.cell? ⟨w8.heap.size + 1, 1, none⟩ = some (.int .i64 p1) ∧ w'.cell? ⟨w8.heap.size + 1, 2, none⟩ = some (.int .i64 q1))) wx ∧ Below w.heap.size w wx)
    case first =>
      refine wp_region_held_drew (S := (fun w' => w'.cell? ⟨w8.heap.size, 0, none⟩ = some (.int .i64 h0) ∧ w'.cell? ⟨w8.heap.size, 1, none⟩ = some (.int .i64 p0) ∧ w'.cell? ⟨w8.heap.size, 2, none⟩ = some (.int .i64 q0) ∧ w'.cell? ⟨w8.heap.size + 1, 0, none⟩ = some (.int .i64 h1) ∧ w'.cell? ⟨w8.heap.size + 1, 1, none⟩ = some (.int .i64 p1) ∧ w'.cell? ⟨w8.heap.size + 1, 2, none⟩ = some (.int .i64 q1))) (by kernel_rfl) ⟨c0, c1, c2, d0, d1, d2⟩ (fun hHeld => ?_)
      refine wpAnyH_take (i := 0) (v := ?v3x0) (List.getElem?_toArray.trans rfl) (by kernel_rfl) (by kernel_rfl) (by kernel_rfl) (fun _ _ _ h => h) (Or.inl ⟨by rfl, ?y3x0⟩) (by assumption) ?r3x0
      case y3x0 => (intro w hSw; (try dsimp only at hSw); go_simp; try with_reducible rfl)
      try simp only [Act.put, List.setIfInBounds_toArray, List.set_cons_zero, List.set_cons_succ]
      refine wpAnyH_take (i := 1) (v := ?v3x1) (List.getElem?_toArray.trans rfl) (by kernel_rfl) (by kernel_rfl) (by kernel_rfl) (fun _ _ _ h => h) (Or.inl ⟨by rfl, ?y3x1⟩) (by assumption) ?r3x1
      case y3x1 => (intro w hSw; (try dsimp only at hSw); go_simp; try with_reducible rfl)
      try simp only [Act.put, List.setIfInBounds_toArray, List.set_cons_zero, List.set_cons_succ]
      refine wpAnyH_take (i := 2) (v := ?v3x2) (List.getElem?_toArray.trans rfl) (by kernel_rfl) (by kernel_rfl) (by kernel_rfl) (fun _ _ _ h => h) (Or.inl ⟨by rfl, ?y3x2⟩) (by assumption) ?r3x2
      case y3x2 => (intro w hSw; (try dsimp only at hSw); go_simp; try with_reducible rfl)
      try simp only [Act.put, List.setIfInBounds_toArray, List.set_cons_zero, List.set_cons_succ]
      refine wpAnyH_ready (rs := [3]) (by kernel_rfl) (by simp) ?_
      refine AllReadyH.cons (List.getElem?_toArray.trans rfl) (fun K hK => ?_) AllReadyH.nil
      go_simp
      go_at_call 13; refine (dist_impl _ _ _ _ _ _ _).mono ?_; rintro e w3 ⟨rfl, hb3⟩; have s3 := six_below hb3 (by assumption); have bB : Below w.heap.size w w3 := (by first | exact bB.trans (hb3.mono bB.size) | exact bB.drew.trans (hb3.mono bB.size))
      refine hK.out _ _ s3 (fun hHeld => ?_)
      clear hK K
      try simp only [Act.put, List.setIfInBounds_toArray, List.set_cons_zero, List.set_cons_succ]
      refine wpAnyH_take (i := 4) (v := ?v3x4) (List.getElem?_toArray.trans rfl) (by kernel_rfl) (by kernel_rfl) (by kernel_rfl) (fun _ _ _ h => h) (Or.inl ⟨by rfl, ?y3x4⟩) (by assumption) ?r3x4
      case y3x4 => (intro w hSw; (try dsimp only at hSw); go_simp; try with_reducible rfl)
      try simp only [Act.put, List.setIfInBounds_toArray, List.set_cons_zero, List.set_cons_succ]
      refine wpAnyH_take (i := 5) (v := ?v3x5) (List.getElem?_toArray.trans rfl) (by kernel_rfl) (by kernel_rfl) (by kernel_rfl) (fun _ _ _ h => h) (Or.inl ⟨by rfl, ?y3x5⟩) (by assumption) ?r3x5
      case y3x5 => (intro w hSw; (try dsimp only at hSw); go_simp; try with_reducible rfl)
      try simp only [Act.put, List.setIfInBounds_toArray, List.set_cons_zero, List.set_cons_succ]
      refine wpAnyH_take (i := 6) (v := ?v3x6) (List.getElem?_toArray.trans rfl) (by kernel_rfl) (by kernel_rfl) (by kernel_rfl) (fun _ _ _ h => h) (Or.inl ⟨by rfl, ?y3x6⟩) (by assumption) ?r3x6
      case y3x6 => (intro w hSw; (try dsimp only at hSw); go_simp; try with_reducible rfl)
      try simp only [Act.put, List.setIfInBounds_toArray, List.set_cons_zero, List.set_cons_succ]
      refine wpAnyH_take (i := 7) (v := ?v3x7) (List.getElem?_toArray.trans rfl) (by kernel_rfl) (by kernel_rfl) (by kernel_rfl) (fun _ _ _ h => h) (Or.inl ⟨by rfl, ?y3x7⟩) (by assumption) ?r3x7
      case y3x7 => (intro w hSw; (try dsimp only at hSw); go_simp; try with_reducible rfl)
      try simp only [Act.put, List.setIfInBounds_toArray, List.set_cons_zero, List.set_cons_succ]
      refine wpAnyH_take (i := 8) (v := ?v3x8) (List.getElem?_toArray.trans rfl) (by kernel_rfl) (by kernel_rfl) (by kernel_rfl) (fun _ _ _ h => h) (Or.inl ⟨by rfl, ?y3x8⟩) (by assumption) ?r3x8
      case y3x8 => (intro w hSw; (try dsimp only at hSw); go_simp; try with_reducible rfl)
      try simp only [Act.put, List.setIfInBounds_toArray, List.set_cons_zero, List.set_cons_succ]
      refine wpAnyH_take (i := 9) (v := ?v3x9) (List.getElem?_toArray.trans rfl) (by kernel_rfl) (by kernel_rfl) (by kernel_rfl) (fun _ _ _ h => h) (Or.inl ⟨by rfl, ?y3x9⟩) (by assumption) ?r3x9
      case y3x9 => (intro w hSw; (try dsimp only at hSw); go_simp; try with_reducible rfl)
      try simp only [Act.put, List.setIfInBounds_toArray, List.set_cons_zero, List.set_cons_succ]
      refine wpAnyH_take (i := 10) (v := ?v3x10) (List.getElem?_toArray.trans rfl) (by kernel_rfl) (by kernel_rfl) (by kernel_rfl) (fun _ _ _ h => h) (Or.inl ⟨by rfl, ?y3x10⟩) (by assumption) ?r3x10
      case y3x10 => (intro w hSw; (try dsimp only at hSw); go_simp; try with_reducible rfl)
      try simp only [Act.put, List.setIfInBounds_toArray, List.set_cons_zero, List.set_cons_succ]
      refine wpAnyH_take (i := 11) (v := ?v3x11) (List.getElem?_toArray.trans rfl) (by kernel_rfl) (by kernel_rfl) (by kernel_rfl) (fun _ _ _ h => h) (Or.inl ⟨by rfl, ?y3x11⟩) (by assumption) ?r3x11
      case y3x11 => (intro w hSw; (try dsimp only at hSw); go_simp; try with_reducible rfl)
      try simp only [Act.put, List.setIfInBounds_toArray, List.set_cons_zero, List.set_cons_succ]
      refine wpAnyH_take (i := 12) (v := ?v3x12) (List.getElem?_toArray.trans rfl) (by kernel_rfl) (by kernel_rfl) (by kernel_rfl) (fun _ _ _ h => h) (Or.inl ⟨by rfl, ?y3x12⟩) (by assumption) ?r3x12
      case y3x12 => (intro w hSw; (try dsimp only at hSw); go_simp; try with_reducible rfl)
      try simp only [Act.put, List.setIfInBounds_toArray, List.set_cons_zero, List.set_cons_succ]
      refine wpAnyH_take (i := 13) (v := ?v3x13) (List.getElem?_toArray.trans rfl) (by kernel_rfl) (by kernel_rfl) (by kernel_rfl) (fun _ _ _ h => h) (Or.inl ⟨by rfl, ?y3x13⟩) (by assumption) ?r3x13
      case y3x13 => (intro w hSw; (try dsimp only at hSw); go_simp; try with_reducible rfl)
      try simp only [Act.put, List.setIfInBounds_toArray, List.set_cons_zero, List.set_cons_succ]
      refine wpAnyH_take (i := 14) (v := ?v3x14) (List.getElem?_toArray.trans rfl) (by kernel_rfl) (by kernel_rfl) (by kernel_rfl) (fun _ _ _ h => h) (Or.inl ⟨by rfl, ?y3x14⟩) (by assumption) ?r3x14
      case y3x14 => (intro w hSw; (try dsimp only at hSw); go_simp; try with_reducible rfl)
      try simp only [Act.put, List.setIfInBounds_toArray, List.set_cons_zero, List.set_cons_succ]
      refine wpAnyH_take (i := 15) (v := ?v3x15) (List.getElem?_toArray.trans rfl) (by kernel_rfl) (by kernel_rfl) (by kernel_rfl) (fun _ _ _ h => h) (Or.inl ⟨by rfl, ?y3x15⟩) (by assumption) ?r3x15
      case y3x15 => (intro w hSw; (try dsimp only at hSw); go_simp; try with_reducible rfl)
      try simp only [Act.put, List.setIfInBounds_toArray, List.set_cons_zero, List.set_cons_succ]
      refine wpAnyH_take (i := 16) (v := ?v3x16) (List.getElem?_toArray.trans rfl) (by kernel_rfl) (by kernel_rfl) (by kernel_rfl) (fun _ _ _ h => h) (Or.inl ⟨by rfl, ?y3x16⟩) (by assumption) ?r3x16
      case y3x16 => (intro w hSw; (try dsimp only at hSw); go_simp; try with_reducible rfl)
      try simp only [Act.put, List.setIfInBounds_toArray, List.set_cons_zero, List.set_cons_succ]
      refine wpAnyH_take (i := 17) (v := ?v3x17) (List.getElem?_toArray.trans rfl) (by kernel_rfl) (by kernel_rfl) (by kernel_rfl) (fun _ _ _ h => h) (Or.inl ⟨by rfl, ?y3x17⟩) (by assumption) ?r3x17
      case y3x17 => (intro w hSw; (try dsimp only at hSw); go_simp; try with_reducible rfl)
      try simp only [Act.put, List.setIfInBounds_toArray, List.set_cons_zero, List.set_cons_succ]
      refine wpAnyH_take (i := 18) (v := ?v3x18) (List.getElem?_toArray.trans rfl) (by kernel_rfl) (by kernel_rfl) (by kernel_rfl) (fun _ _ _ h => h) (Or.inl ⟨by rfl, ?y3x18⟩) (by assumption) ?r3x18
      case y3x18 => (intro w hSw; (try dsimp only at hSw); go_simp; try with_reducible rfl)
      try simp only [Act.put, List.setIfInBounds_toArray, List.set_cons_zero, List.set_cons_succ]
      refine wpAnyH_take (i := 19) (v := ?v3x19) (List.getElem?_toArray.trans rfl) (by kernel_rfl) (by kernel_rfl) (by kernel_rfl) (fun _ _ _ h => h) (Or.inl ⟨by rfl, ?y3x19⟩) (by assumption) ?r3x19
      case y3x19 => (intro w hSw; (try dsimp only at hSw); go_simp; try with_reducible rfl)
      try simp only [Act.put, List.setIfInBounds_toArray, List.set_cons_zero, List.set_cons_succ]
      refine wpAnyH_take (i := 20) (v := ?v3x20) (List.getElem?_toArray.trans rfl) (by kernel_rfl) (by kernel_rfl) (by kernel_rfl) (fun _ _ _ h => h) (Or.inl ⟨by rfl, ?y3x20⟩) (by assumption) ?r3x20
      case y3x20 => (intro w hSw; (try dsimp only at hSw); go_simp; try with_reducible rfl)
      try simp only [Act.put, List.setIfInBounds_toArray, List.set_cons_zero, List.set_cons_succ]
      refine wpAnyH_take (i := 21) (v := ?v3x21) (List.getElem?_toArray.trans rfl) (by kernel_rfl) (by kernel_rfl) (by kernel_rfl) (fun _ _ _ h => h) (Or.inl ⟨by rfl, ?y3x21⟩) (by assumption) ?r3x21
      case y3x21 => (intro w hSw; (try dsimp only at hSw); go_simp; try with_reducible rfl)
      try simp only [Act.put, List.setIfInBounds_toArray, List.set_cons_zero, List.set_cons_succ]
      refine wpAnyH_take (i := 22) (v := ?v3x22) (List.getElem?_toArray.trans rfl) (by kernel_rfl) (by kernel_rfl) (by kernel_rfl) (fun _ _ _ h => h) (Or.inl ⟨by rfl, ?y3x22⟩) (by assumption) ?r3x22
      case y3x22 => (intro w hSw; (try dsimp only at hSw); go_simp; try with_reducible rfl)
      try simp only [Act.put, List.setIfInBounds_toArray, List.set_cons_zero, List.set_cons_succ]
      refine wpAnyH_take (i := 23) (v := ?v3x23) (List.getElem?_toArray.trans rfl) (by kernel_rfl) (by kernel_rfl) (by kernel_rfl) (fun _ _ _ h => h) (Or.inl ⟨by rfl, ?y3x23⟩) (by assumption) ?r3x23
      case y3x23 => (intro w hSw; (try dsimp only at hSw); go_simp; try with_reducible rfl)
      try simp only [Act.put, List.setIfInBounds_toArray, List.set_cons_zero, List.set_cons_succ]
      refine wpAnyH_take (i := 24) (v := ?v3x24) (List.getElem?_toArray.trans rfl) (by kernel_rfl) (by kernel_rfl) (by kernel_rfl) (fun _ _ _ h => h) (Or.inl ⟨by rfl, ?y3x24⟩) (by assumption) ?r3x24
      case y3x24 => (intro w hSw; (try dsimp only at hSw); go_simp; try with_reducible rfl)
      try simp only [Act.put, List.setIfInBounds_toArray, List.set_cons_zero, List.set_cons_succ]
      refine wpAnyH_take (i := 25) (v := undef) (List.getElem?_toArray.trans rfl) (by kernel_rfl) (by kernel_rfl) (by kernel_rfl) (fun _ _ _ h => h) (Or.inr ⟨by simp [Region.wanted, yielded], rfl⟩) (by assumption) ?_
      try simp only [Act.put, List.setIfInBounds_toArray, List.set_cons_zero, List.set_cons_succ]
      refine wpAnyH_take (i := 26) (v := undef) (List.getElem?_toArray.trans rfl) (by kernel_rfl) (by kernel_rfl) (by kernel_rfl) (fun _ _ _ h => h) (Or.inr ⟨by simp [Region.wanted, yielded], rfl⟩) (by assumption) ?_
      try simp only [Act.put, List.setIfInBounds_toArray, List.set_cons_zero, List.set_cons_succ]
      refine wpAnyH_take (i := 27) (v := undef) (List.getElem?_toArray.trans rfl) (by kernel_rfl) (by kernel_rfl) (by kernel_rfl) (fun _ _ _ h => h) (Or.inr ⟨by simp [Region.wanted, yielded], rfl⟩) (by assumption) ?_
      try simp only [Act.put, List.setIfInBounds_toArray, List.set_cons_zero, List.set_cons_succ]
      refine wpAnyH_take (i := 28) (v := undef) (List.getElem?_toArray.trans rfl) (by kernel_rfl) (by kernel_rfl) (by kernel_rfl) (fun _ _ _ h => h) (Or.inr ⟨by simp [Region.wanted, yielded], rfl⟩) (by assumption) ?_
      try simp only [Act.put, List.setIfInBounds_toArray, List.set_cons_zero, List.set_cons_succ]
      refine wpAnyH_take (i := 29) (v := undef) (List.getElem?_toArray.trans rfl) (by kernel_rfl) (by kernel_rfl) (by kernel_rfl) (fun _ _ _ h => h) (Or.inr ⟨by simp [Region.wanted, yielded], rfl⟩) (by assumption) ?_
      try simp only [Act.put, List.setIfInBounds_toArray, List.set_cons_zero, List.set_cons_succ]
      refine wpAnyH_take (i := 30) (v := ?v3x30) (List.getElem?_toArray.trans rfl) (by kernel_rfl) (by kernel_rfl) (by kernel_rfl) (fun _ _ _ h => h) (Or.inl ⟨by rfl, ?y3x30⟩) (by assumption) ?r3x30
      case y3x30 => (intro w hSw; (try dsimp only at hSw); go_simp; try with_reducible rfl)
      try simp only [Act.put, List.setIfInBounds_toArray, List.set_cons_zero, List.set_cons_succ]
      refine wpAnyH_take (i := 31) (v := ?v3x31) (List.getElem?_toArray.trans rfl) (by kernel_rfl) (by kernel_rfl) (by kernel_rfl) (fun _ _ _ h => h) (Or.inl ⟨by rfl, ?y3x31⟩) (by assumption) ?r3x31
      case y3x31 => (intro w hSw; (try dsimp only at hSw); go_simp; try with_reducible rfl)
      try simp only [Act.put, List.setIfInBounds_toArray, List.set_cons_zero, List.set_cons_succ]
      refine wpAnyH_done (by kernel_rfl) ?_ _
      all_goals
        go_wp2_with fail
        go_meet
        case rel => exact ⟨rfl, s3, bB⟩
    case rest =>
    obtain ⟨rfl, ⟨c0, c1, c2, d0, d1, d2⟩, bB⟩ := hcut
    go_wp2_with fail
    go_region_held3 (fun w' => w'.cell? ⟨w8.heap.size, 0, none⟩ = some (.int .i64 h0) ∧ w'.cell? ⟨w8.heap.size, 1, none⟩ = some (.int .i64 p0) ∧ w'.cell? ⟨w8.heap.size, 2, none⟩ = some (.int .i64 q0) ∧ w'.cell? ⟨w8.heap.size + 1, 0, none⟩ = some (.int .i64 h1) ∧ w'.cell? ⟨w8.heap.size + 1, 1, none⟩ = some (.int .i64 p1) ∧ w'.cell? ⟨w8.heap.size + 1, 2, none⟩ = some (.int .i64 q1))
      (first | exact s3 | assumption | exact ⟨c0, c1, c2, d0, d1, d2⟩ | go_keep)
      (first | (go_at_call 15; refine (before_impl _ _ _ _ _ _ _).mono ?_; rintro e w3 ⟨rfl, hb3⟩; have s3 := six_below hb3 (by assumption); have bB : Below w.heap.size w w3 := (by first | exact bB.trans (hb3.mono bB.size) | exact bB.drew.trans (hb3.mono bB.size))))
    all_goals
      go_wp2
      go_ret
      exact ⟨rfl, bB⟩
end Go.Proofs.YtoiaigmfoglcbaaDoor.FnAddressesW
