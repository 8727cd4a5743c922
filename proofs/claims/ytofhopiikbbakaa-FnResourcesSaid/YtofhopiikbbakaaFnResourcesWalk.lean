/-
  The law FnResources returns true, and leaves what was there as it was, whatever the library's table of powers of ten holds.
  Conditions: the bytes are in memory; the table's third place holds some number.
-/
import Derived.Test.YtofhopiikbbakaaResOpen
import Derived.Test.YtofhopiikbbakaaResInts
import Derived.Test.YtofhopiikbbakaaResSize
import Derived.Test.YtofhopiikbbakaaDraws5
import Derived.Test.YtofhopiikbbakaaSameAny
import Derived.Deep.RegionHeld3
namespace Go.Proofs.Ytofhopiikbbakaa.FnResourcesW
open Go Go.RowKit Go.Proofs.Ytofhopiikbbakaa.Mem Go.Proofs.Ytofhopiikbbakaa.Adr Go.Proofs.Ytofhopiikbbakaa.Res Go.Proofs.Ytofhopiikbbakaa.Draw Go.Proofs.Ytofhopiikbbakaa.Fmo
set_option linter.unusedVariables false

set_option maxHeartbeats 4000000 in
set_option maxRecDepth 100000 in
theorem law_walk (a : Option Addr) (n c : Nat) (x : Int) (w : World) (hb0 : Bytes w.heap.size w a n) (hx : At2 x w) :
    Calls Try.prog 3 #[.slice a n c] w fun e w' => e = .returned (.bool true) ∧ Below w.heap.size w w' := by
  have hn0 := hb0.1
  by_cases hbig : 1048576 < n
  · go_enter Try.func3, Try.ntmps3
    go_wp2
    go_ret
    exact ⟨rfl, Below.refl _ _⟩
  go_enter Try.func3, Try.ntmps3
  go_wp2_with (go_at_call 9; go_in)
  go_at_call 10
  refine (draw_is5 _ a n c _ hb0 (Nat.le_refl _)).mono ?_
  rintro e w1 ⟨k, h, q, r, a1, n1, c1, zs, hk, hh, hq, hr0, rfl, hr, hn, hg, hb1⟩
  have bB := (hb1.alloc hb1.size (.cells #[.int .i64 k, .slice a1 n1 c1, .int .i64 h, .int .i64 q, .int .i64 r] 28)).drew
  have qV := (Quint.new 28 (.int .i64 k) (.slice a1 n1 c1) (.int .i64 h) (.int .i64 q) (.int .i64 r) w1).drew
  have hr := hr.below (((Below.refl _ _).alloc (Nat.le_refl _) (.cells #[.int .i64 k, .slice a1 n1 c1, .int .i64 h, .int .i64 q, .int .i64 r] 28)).drew)
  have hx := hx.on bB
  have kd := qV.cells
  have hby := hb0.below bB
  have hl := hr.len
  have e1 : IntKind.wrap .i64 ((n1 : Int) + 1) = (n1 : Int) + 1 := by rw [IntKind.wrap_i64]; omega
  have e2 : IntKind.wrap .i64 ((n1 : Int) + 5) = (n1 : Int) + 5 := by rw [IntKind.wrap_i64]; omega
  have e3 : (((5 + n1 : Nat) : Int) == (n1 : Int) + 5) = true := by simp; omega
  have e4 : ((5 : Int) + (n1 : Int) == (n1 : Int) + 5) = true := by simp; omega
  have e5 : ((5 : Int) + (n1 : Int)) = (n1 : Int) + 5 := by omega
  clear hb1
  cases hb : okR k h q r n1 zs
  · go_wp2_with fail
    go_region_held3 (fun w' => w'.cell? ⟨w1.heap.size, 0, none⟩ = some (.int .i64 k) ∧ w'.cell? ⟨w1.heap.size, 1, none⟩ = some (.slice a1 n1 c1) ∧ w'.cell? ⟨w1.heap.size, 2, none⟩ = some (.int .i64 h) ∧ w'.cell? ⟨w1.heap.size, 3, none⟩ = some (.int .i64 q) ∧ w'.cell? ⟨w1.heap.size, 4, none⟩ = some (.int .i64 r))
      (first | (with_reducible exact s3) | (with_reducible exact kd) | go_keep)
      (first
      | (go_at_call 11; refine (text_open x _ _ k h q r _ a1 n1 c1 zs hr (by omega) hg hx).mono ?_; rw [hb]; rintro e w9 ⟨s, rfl, hs1, hs0, hb9⟩; have hs2 := hs0 rfl; subst hs2; have qV := qV.below hb9; have hr := hr.below hb9; have hx := hx.on hb9; have s3 := qV.cells; have bB := bB.trans (hb9.mono bB.size))
      | (go_at_call 12; refine (valid_impl _ _ k h q r _ a1 n1 c1 zs hr).mono ?_; rw [hb]; rintro e w9 ⟨rfl, hb9⟩; have qV := qV.below hb9; have hr := hr.below hb9; have hx := hx.on hb9; have s3 := qV.cells; have bB := bB.trans (hb9.mono bB.size))
      | (go_at_call 13; refine (size_impl k h q r _ a1 n1 c1 (by omega)).mono ?_; rintro e w9 ⟨rfl, hb9⟩; have qV := qV.below hb9; have hr := hr.below hb9; have hx := hx.on hb9; have s3 := qV.cells; have bB := bB.trans (hb9.mono bB.size))
      | (go_at_call 14; refine (ints_impl _ _ k h q r _ a1 n1 c1 zs hr (by omega) (wf_i k hk) (wf_i h hh) (wf_i q hq) (wf_i r hr0)).mono ?_; rintro e w9 ⟨a9, c9, rfl, ho9, hx9, hy9, hb9⟩; have qV := qV.below hb9; have hr := hr.below hb9; have hx := hx.on hb9; have s3 := qV.cells; have bB := bB.trans (hb9.mono bB.size))
      )
    all_goals
      go_wp2_with fail
      go_at_call 15
      refine (draw_eq5 _ a n c _ (hb0.below bB) bB.size).mono ?_
      rintro e w2 ⟨ka, ha, pa, qa, aa, na, ca, za, kb, hb', pb, qb, ab, nb, cb, zb, i1, i2, i3, i4, i5, i6, i7, i8, rfl, ra, rb, hna, hnb, hb2⟩
      have bB := bB.trans (hb2.mono bB.size)
      have bB := ((bB.alloc bB.size (.cells #[.int .i64 ka, .slice aa na ca, .int .i64 ha, .int .i64 pa, .int .i64 qa] 28)).alloc (le_alloc bB.size) (.cells #[.int .i64 kb, .slice ab nb cb, .int .i64 hb', .int .i64 pb, .int .i64 qb] 28)).drew
      have QA : Quint 28 w2.heap.size (.int .i64 ka) (.slice aa na ca) (.int .i64 ha) (.int .i64 pa) (.int .i64 qa) (((w2.alloc (.cells #[.int .i64 ka, .slice aa na ca, .int .i64 ha, .int .i64 pa, .int .i64 qa] 28)).alloc (.cells #[.int .i64 kb, .slice ab nb cb, .int .i64 hb', .int .i64 pb, .int .i64 qb] 28)).drew) := ((Quint.new _ _ _ _ _ _ w2).alloc _).drew
      have QB : Quint 28 (w2.heap.size + 1) (.int .i64 kb) (.slice ab nb cb) (.int .i64 hb') (.int .i64 pb) (.int .i64 qb) (((w2.alloc (.cells #[.int .i64 ka, .slice aa na ca, .int .i64 ha, .int .i64 pa, .int .i64 qa] 28)).alloc (.cells #[.int .i64 kb, .slice ab nb cb, .int .i64 hb', .int .i64 pb, .int .i64 qb] 28)).drew) := by have := Quint.new 28 (.int .i64 kb) (.slice ab nb cb) (.int .i64 hb') (.int .i64 pb) (.int .i64 qb) (w2.alloc (.cells #[.int .i64 ka, .slice aa na ca, .int .i64 ha, .int .i64 pa, .int .i64 qa] 28)); rw [size_alloc] at this; exact this.drew
      have hbw : Below w2.heap.size w2 (((w2.alloc (.cells #[.int .i64 ka, .slice aa na ca, .int .i64 ha, .int .i64 pa, .int .i64 qa] 28)).alloc (.cells #[.int .i64 kb, .slice ab nb cb, .int .i64 hb', .int .i64 pb, .int .i64 qb] 28)).drew) := (((Below.refl _ _).alloc (Nat.le_refl _) _).alloc (le_alloc (Nat.le_refl _)) _).drew
      have ra := ra.below hbw
      have rb := rb.below hbw
      have kd := ten QA QB
      have fa : Wf ka ∧ Wf ha ∧ Wf pa ∧ Wf qa := ⟨wf_i _ i1, wf_i _ i2, wf_i _ i3, wf_i _ i4⟩
      have fb : Wf kb ∧ Wf hb' ∧ Wf pb ∧ Wf qb := ⟨wf_i _ i5, wf_i _ i6, wf_i _ i7, wf_i _ i8⟩
      obtain ⟨fa1, fa2, fa3, fa4⟩ := fa
      obtain ⟨fb1, fb2, fb3, fb4⟩ := fb
      clear hb2 hbw qV hr s3 hx hg i1 i2 i3 i4 i5 i6 i7 i8
      obtain ⟨R, hR⟩ : ∃ R, decide (nums ka ha pa qa na za = nums kb hb' pb qb nb zb) = R := ⟨_, rfl⟩
      cases R
      all_goals
        go_wp2_with fail
        go_region_held3 (fun w' => w'.cell? ⟨w2.heap.size, 0, none⟩ = some (.int .i64 ka) ∧ w'.cell? ⟨w2.heap.size, 1, none⟩ = some (.slice aa na ca) ∧ w'.cell? ⟨w2.heap.size, 2, none⟩ = some (.int .i64 ha) ∧ w'.cell? ⟨w2.heap.size, 3, none⟩ = some (.int .i64 pa) ∧ w'.cell? ⟨w2.heap.size, 4, none⟩ = some (.int .i64 qa) ∧ w'.cell? ⟨w2.heap.size + 1, 0, none⟩ = some (.int .i64 kb) ∧ w'.cell? ⟨w2.heap.size + 1, 1, none⟩ = some (.slice ab nb cb) ∧ w'.cell? ⟨w2.heap.size + 1, 2, none⟩ = some (.int .i64 hb') ∧ w'.cell? ⟨w2.heap.size + 1, 3, none⟩ = some (.int .i64 pb) ∧ w'.cell? ⟨w2.heap.size + 1, 4, none⟩ = some (.int .i64 qb))
          (first | (with_reducible exact s3) | (with_reducible exact kd) | go_keep)
          (first
          | (go_at_call 16; (with_reducible (show Calls _ _ #[(Value.agg #[Value.int IntKind.i64 (ka), Value.slice (aa) (na) (ca), Value.int IntKind.i64 (ha), Value.int IntKind.i64 (pa), Value.int IntKind.i64 (qa)]), (Value.agg #[Value.int IntKind.i64 (kb), Value.slice (ab) (nb) (cb), Value.int IntKind.i64 (hb'), Value.int IntKind.i64 (pb), Value.int IntKind.i64 (qb)])] _ _)); refine (same_impl _ _ _ _ ka ha pa qa kb hb' pb qb _ _ _ na _ nb _ za zb ra rb (by omega) (by omega) fa1 fa2 fa3 fa4 fb1 fb2 fb3 fb4).mono ?_; rw [hR]; rintro e w9 ⟨rfl, hb9⟩; have QA := QA.below hb9; have QB := QB.below hb9; have ra := ra.below hb9; have rb := rb.below hb9; have s3 := ten QA QB; have bB := bB.trans (hb9.mono bB.size))
          | (go_at_call 16; (with_reducible (show Calls _ _ #[(Value.agg #[Value.int IntKind.i64 (ka), Value.slice (aa) (na) (ca), Value.int IntKind.i64 (ha), Value.int IntKind.i64 (pa), Value.int IntKind.i64 (qa)]), (Value.agg #[Value.int IntKind.i64 (ka), Value.slice (aa) (na) (ca), Value.int IntKind.i64 (ha), Value.int IntKind.i64 (pa), Value.int IntKind.i64 (qa)])] _ _)); refine (same_impl _ _ _ _ ka ha pa qa ka ha pa qa _ _ _ na _ na _ za za ra ra (by omega) (by omega) fa1 fa2 fa3 fa4 fa1 fa2 fa3 fa4).mono ?_; rw [decide_eq_true rfl]; rintro e w9 ⟨rfl, hb9⟩; have QA := QA.below hb9; have QB := QB.below hb9; have ra := ra.below hb9; have rb := rb.below hb9; have s3 := ten QA QB; have bB := bB.trans (hb9.mono bB.size))
          | (go_at_call 14; (with_reducible (show Calls _ _ #[(Value.agg #[Value.int IntKind.i64 (ka), Value.slice (aa) (na) (ca), Value.int IntKind.i64 (ha), Value.int IntKind.i64 (pa), Value.int IntKind.i64 (qa)])] _ _)); (fail_if_success (have gg := hoA)); refine (ints_impl _ _ ka ha pa qa _ aa na ca za ra (by omega) fa1 fa2 fa3 fa4).mono ?_; rintro e w9 ⟨aA, cA, rfl, hoA, hxA, hyA, hb9⟩; have QA := QA.below hb9; have QB := QB.below hb9; have ra := ra.below hb9; have rb := rb.below hb9; have s3 := ten QA QB; have bB := bB.trans (hb9.mono bB.size))
          | (go_at_call 14; (with_reducible (show Calls _ _ #[(Value.agg #[Value.int IntKind.i64 (kb), Value.slice (ab) (nb) (cb), Value.int IntKind.i64 (hb'), Value.int IntKind.i64 (pb), Value.int IntKind.i64 (qb)])] _ _)); refine (ints_impl _ _ kb hb' pb qb _ ab nb cb zb rb (by omega) fb1 fb2 fb3 fb4).mono ?_; rintro e w9 ⟨aB, cB, rfl, hoB, hxB, hyB, hb9⟩; have QA := QA.below hb9; have QB := QB.below hb9; have ra := ra.below hb9; have rb := rb.below hb9; have hoA := hoA.below hb9; have s3 := ten QA QB; have bB := bB.trans (hb9.mono bB.size))
          | (go_at_call 17; refine (SameI.same_below _ _ _ _ _ _ _ _ _ _ _ _ _ hoA.row hoB.row (by omega) (by omega)).mono ?_; rw [hR]; rintro e w9 ⟨rfl, hb9⟩; have QA := QA.below hb9; have QB := QB.below hb9; have ra := ra.below hb9; have rb := rb.below hb9; have s3 := ten QA QB; have bB := bB.trans (hb9.mono bB.size))
          )
        all_goals
          go_wp2
          go_ret
          exact ⟨rfl, bB⟩
  · go_wp2_with fail
    go_region_held3 (fun w' => w'.cell? ⟨w1.heap.size, 0, none⟩ = some (.int .i64 k) ∧ w'.cell? ⟨w1.heap.size, 1, none⟩ = some (.slice a1 n1 c1) ∧ w'.cell? ⟨w1.heap.size, 2, none⟩ = some (.int .i64 h) ∧ w'.cell? ⟨w1.heap.size, 3, none⟩ = some (.int .i64 q) ∧ w'.cell? ⟨w1.heap.size, 4, none⟩ = some (.int .i64 r))
      (first | (with_reducible exact s3) | (with_reducible exact kd) | go_keep)
      (first
      | (go_at_call 11; refine (text_open x _ _ k h q r _ a1 n1 c1 zs hr (by omega) hg hx).mono ?_; rw [hb]; rintro e w9 ⟨s, rfl, hs1, hs0, hb9⟩; have hs2 := hs1 rfl; have hs3 := ne_toList hs2; have qV := qV.below hb9; have hr := hr.below hb9; have hx := hx.on hb9; have s3 := qV.cells; have bB := bB.trans (hb9.mono bB.size))
      | (go_at_call 12; refine (valid_impl _ _ k h q r _ a1 n1 c1 zs hr).mono ?_; rw [hb]; rintro e w9 ⟨rfl, hb9⟩; have qV := qV.below hb9; have hr := hr.below hb9; have hx := hx.on hb9; have s3 := qV.cells; have bB := bB.trans (hb9.mono bB.size))
      | (go_at_call 13; refine (size_impl k h q r _ a1 n1 c1 (by omega)).mono ?_; rintro e w9 ⟨rfl, hb9⟩; have qV := qV.below hb9; have hr := hr.below hb9; have hx := hx.on hb9; have s3 := qV.cells; have bB := bB.trans (hb9.mono bB.size))
      | (go_at_call 14; refine (ints_impl _ _ k h q r _ a1 n1 c1 zs hr (by omega) (wf_i k hk) (wf_i h hh) (wf_i q hq) (wf_i r hr0)).mono ?_; rintro e w9 ⟨a9, c9, rfl, ho9, hx9, hy9, hb9⟩; have qV := qV.below hb9; have hr := hr.below hb9; have hx := hx.on hb9; have s3 := qV.cells; have bB := bB.trans (hb9.mono bB.size))
      )
    all_goals
      go_wp2_with fail
      go_at_call 15
      refine (draw_eq5 _ a n c _ (hb0.below bB) bB.size).mono ?_
      rintro e w2 ⟨ka, ha, pa, qa, aa, na, ca, za, kb, hb', pb, qb, ab, nb, cb, zb, i1, i2, i3, i4, i5, i6, i7, i8, rfl, ra, rb, hna, hnb, hb2⟩
      have bB := bB.trans (hb2.mono bB.size)
      have bB := ((bB.alloc bB.size (.cells #[.int .i64 ka, .slice aa na ca, .int .i64 ha, .int .i64 pa, .int .i64 qa] 28)).alloc (le_alloc bB.size) (.cells #[.int .i64 kb, .slice ab nb cb, .int .i64 hb', .int .i64 pb, .int .i64 qb] 28)).drew
      have QA : Quint 28 w2.heap.size (.int .i64 ka) (.slice aa na ca) (.int .i64 ha) (.int .i64 pa) (.int .i64 qa) (((w2.alloc (.cells #[.int .i64 ka, .slice aa na ca, .int .i64 ha, .int .i64 pa, .int .i64 qa] 28)).alloc (.cells #[.int .i64 kb, .slice ab nb cb, .int .i64 hb', .int .i64 pb, .int .i64 qb] 28)).drew) := ((Quint.new _ _ _ _ _ _ w2).alloc _).drew
      have QB : Quint 28 (w2.heap.size + 1) (.int .i64 kb) (.slice ab nb cb) (.int .i64 hb') (.int .i64 pb) (.int .i64 qb) (((w2.alloc (.cells #[.int .i64 ka, .slice aa na ca, .int .i64 ha, .int .i64 pa, .int .i64 qa] 28)).alloc (.cells #[.int .i64 kb, .slice ab nb cb, .int .i64 hb', .int .i64 pb, .int .i64 qb] 28)).drew) := by have := Quint.new 28 (.int .i64 kb) (.slice ab nb cb) (.int .i64 hb') (.int .i64 pb) (.int .i64 qb) (w2.alloc (.cells #[.int .i64 ka, .slice aa na ca, .int .i64 ha, .int .i64 pa, .int .i64 qa] 28)); rw [size_alloc] at this; exact this.drew
      have hbw : Below w2.heap.size w2 (((w2.alloc (.cells #[.int .i64 ka, .slice aa na ca, .int .i64 ha, .int .i64 pa, .int .i64 qa] 28)).alloc (.cells #[.int .i64 kb, .slice ab nb cb, .int .i64 hb', .int .i64 pb, .int .i64 qb] 28)).drew) := (((Below.refl _ _).alloc (Nat.le_refl _) _).alloc (le_alloc (Nat.le_refl _)) _).drew
      have ra := ra.below hbw
      have rb := rb.below hbw
      have kd := ten QA QB
      have fa : Wf ka ∧ Wf ha ∧ Wf pa ∧ Wf qa := ⟨wf_i _ i1, wf_i _ i2, wf_i _ i3, wf_i _ i4⟩
      have fb : Wf kb ∧ Wf hb' ∧ Wf pb ∧ Wf qb := ⟨wf_i _ i5, wf_i _ i6, wf_i _ i7, wf_i _ i8⟩
      obtain ⟨fa1, fa2, fa3, fa4⟩ := fa
      obtain ⟨fb1, fb2, fb3, fb4⟩ := fb
      clear hb2 hbw qV hr s3 hx hg i1 i2 i3 i4 i5 i6 i7 i8
      obtain ⟨R, hR⟩ : ∃ R, decide (nums ka ha pa qa na za = nums kb hb' pb qb nb zb) = R := ⟨_, rfl⟩
      cases R
      all_goals
        go_wp2_with fail
        go_region_held3 (fun w' => w'.cell? ⟨w2.heap.size, 0, none⟩ = some (.int .i64 ka) ∧ w'.cell? ⟨w2.heap.size, 1, none⟩ = some (.slice aa na ca) ∧ w'.cell? ⟨w2.heap.size, 2, none⟩ = some (.int .i64 ha) ∧ w'.cell? ⟨w2.heap.size, 3, none⟩ = some (.int .i64 pa) ∧ w'.cell? ⟨w2.heap.size, 4, none⟩ = some (.int .i64 qa) ∧ w'.cell? ⟨w2.heap.size + 1, 0, none⟩ = some (.int .i64 kb) ∧ w'.cell? ⟨w2.heap.size + 1, 1, none⟩ = some (.slice ab nb cb) ∧ w'.cell? ⟨w2.heap.size + 1, 2, none⟩ = some (.int .i64 hb') ∧ w'.cell? ⟨w2.heap.size + 1, 3, none⟩ = some (.int .i64 pb) ∧ w'.cell? ⟨w2.heap.size + 1, 4, none⟩ = some (.int .i64 qb))
          (first | (with_reducible exact s3) | (with_reducible exact kd) | go_keep)
          (first
          | (go_at_call 16; (with_reducible (show Calls _ _ #[(Value.agg #[Value.int IntKind.i64 (ka), Value.slice (aa) (na) (ca), Value.int IntKind.i64 (ha), Value.int IntKind.i64 (pa), Value.int IntKind.i64 (qa)]), (Value.agg #[Value.int IntKind.i64 (kb), Value.slice (ab) (nb) (cb), Value.int IntKind.i64 (hb'), Value.int IntKind.i64 (pb), Value.int IntKind.i64 (qb)])] _ _)); refine (same_impl _ _ _ _ ka ha pa qa kb hb' pb qb _ _ _ na _ nb _ za zb ra rb (by omega) (by omega) fa1 fa2 fa3 fa4 fb1 fb2 fb3 fb4).mono ?_; rw [hR]; rintro e w9 ⟨rfl, hb9⟩; have QA := QA.below hb9; have QB := QB.below hb9; have ra := ra.below hb9; have rb := rb.below hb9; have s3 := ten QA QB; have bB := bB.trans (hb9.mono bB.size))
          | (go_at_call 16; (with_reducible (show Calls _ _ #[(Value.agg #[Value.int IntKind.i64 (ka), Value.slice (aa) (na) (ca), Value.int IntKind.i64 (ha), Value.int IntKind.i64 (pa), Value.int IntKind.i64 (qa)]), (Value.agg #[Value.int IntKind.i64 (ka), Value.slice (aa) (na) (ca), Value.int IntKind.i64 (ha), Value.int IntKind.i64 (pa), Value.int IntKind.i64 (qa)])] _ _)); refine (same_impl _ _ _ _ ka ha pa qa ka ha pa qa _ _ _ na _ na _ za za ra ra (by omega) (by omega) fa1 fa2 fa3 fa4 fa1 fa2 fa3 fa4).mono ?_; rw [decide_eq_true rfl]; rintro e w9 ⟨rfl, hb9⟩; have QA := QA.below hb9; have QB := QB.below hb9; have ra := ra.below hb9; have rb := rb.below hb9; have s3 := ten QA QB; have bB := bB.trans (hb9.mono bB.size))
          | (go_at_call 14; (with_reducible (show Calls _ _ #[(Value.agg #[Value.int IntKind.i64 (ka), Value.slice (aa) (na) (ca), Value.int IntKind.i64 (ha), Value.int IntKind.i64 (pa), Value.int IntKind.i64 (qa)])] _ _)); (fail_if_success (have gg := hoA)); refine (ints_impl _ _ ka ha pa qa _ aa na ca za ra (by omega) fa1 fa2 fa3 fa4).mono ?_; rintro e w9 ⟨aA, cA, rfl, hoA, hxA, hyA, hb9⟩; have QA := QA.below hb9; have QB := QB.below hb9; have ra := ra.below hb9; have rb := rb.below hb9; have s3 := ten QA QB; have bB := bB.trans (hb9.mono bB.size))
          | (go_at_call 14; (with_reducible (show Calls _ _ #[(Value.agg #[Value.int IntKind.i64 (kb), Value.slice (ab) (nb) (cb), Value.int IntKind.i64 (hb'), Value.int IntKind.i64 (pb), Value.int IntKind.i64 (qb)])] _ _)); refine (ints_impl _ _ kb hb' pb qb _ ab nb cb zb rb (by omega) fb1 fb2 fb3 fb4).mono ?_; rintro e w9 ⟨aB, cB, rfl, hoB, hxB, hyB, hb9⟩; have QA := QA.below hb9; have QB := QB.below hb9; have ra := ra.below hb9; have rb := rb.below hb9; have hoA := hoA.below hb9; have s3 := ten QA QB; have bB := bB.trans (hb9.mono bB.size))
          | (go_at_call 17; refine (SameI.same_below _ _ _ _ _ _ _ _ _ _ _ _ _ hoA.row hoB.row (by omega) (by omega)).mono ?_; rw [hR]; rintro e w9 ⟨rfl, hb9⟩; have QA := QA.below hb9; have QB := QB.below hb9; have ra := ra.below hb9; have rb := rb.below hb9; have s3 := ten QA QB; have bB := bB.trans (hb9.mono bB.size))
          )
        all_goals
          go_wp2
          go_ret
          exact ⟨rfl, bB⟩
end Go.Proofs.Ytofhopiikbbakaa.FnResourcesW
