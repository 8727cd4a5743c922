/-
  The ticks of the versions of one address: collected, sorted, compacted.
  Conditions: the versions lie in memory, at most 2^20 of them.
-/
import Derived.Test.YtldpgkbemgpacaaPastsOf
import Derived.Test.YtldpgkbemgpacaaTicks
import Derived.Test.YtldpgkbemgpacaaShelfSort
import Derived.Sort.OwnSortedInts
namespace Go.Proofs.Ytldpgkbemgpacaa.Sites
open Go Go.RowKit Go.Shelf Go.Sort Go.Proofs.Ytldpgkbemgpacaa.Mem Go.Proofs.Ytldpgkbemgpacaa.Gen Go.Proofs.Ytldpgkbemgpacaa.Adr Go.Proofs.Ytldpgkbemgpacaa.Res

theorem sort_row (base : Nat) (w : World) (v : Value) (zs : List Int) (h : OwnI .i64 3 base w v zs.length zs) (hn : zs.length ≤ 1048576) :
    Calls Try.prog 67 #[v] w fun e w' => e = .returned (.tuple #[]) ∧ OwnI .i64 3 base w' v zs.length (zs.mergeSort fun x y => decide (x ≤ y)) ∧ Below base w w' := by
  rcases h.2 with ⟨rfl, h0⟩ | ⟨g, cap, cur, rfl, hb, hg, hnc, hcm, hcs, hct⟩
  · obtain rfl := List.eq_nil_of_length_eq_zero h0
    refine (AnyM.slices_Sort_int_none Go.Proofs.Try.sortA none 0 w).mono ?_
    rintro e w' ⟨rfl, rfl⟩
    exact ⟨rfl, by simpa using h, Below.refl _ _⟩
  · have hH := holds_of_blockI (ss := zs) hg (by rw [Nat.mul_one] at hct; exact hct)
    refine (AnyM.slices_Sort_int Go.Proofs.Try.sortA g 0 cap zs w hH (Array.getElem?_eq_some_iff.1 hg).1 (by omega)).mono ?_
    rintro e w' ⟨rfl, n, os, rfl⟩
    refine ⟨rfl, ownsRow_sortedI (by rw [List.length_mergeSort]) hb hg hnc hcm hcs, ?_⟩
    exact (Below.refl _ _).grown (grownBy_sortedI _) (by have := (Array.getElem?_eq_some_iff.1 hg).1; omega) (fun k e => by cases e; exact hb)
theorem compact_le (zs : List Int) : (Lib.compact zs).length ≤ zs.length := by
  unfold Lib.compact Lib.compactUpTo
  rw [List.length_map]
  have := List.length_filter_le (Lib.keeps zs.toArray) (List.range zs.length)
  rwa [List.length_range] at this
theorem compact_row (base : Nat) (w : World) (v : Value) (zs : List Int) (h : OwnI .i64 3 base w v zs.length zs) (hn : zs.length ≤ 1048576) :
    Calls Try.prog 68 #[v] w fun e w' => ∃ v', e = .returned v' ∧ OwnI .i64 3 base w' v' (Lib.compact zs).length (Lib.compact zs) ∧ Below base w w' := by
  rcases h.2 with ⟨rfl, h0⟩ | ⟨g, cap, cur, rfl, hb, hg, hnc, hcm, hcs, hct⟩
  · obtain rfl := List.eq_nil_of_length_eq_zero h0
    refine (AnyG.slices_Compact_int_empty Go.Proofs.Try.compactA none 0 w).mono ?_
    rintro e w' ⟨rfl, rfl⟩
    exact ⟨_, rfl, by simpa [Lib.compact, Lib.compactUpTo] using h, Below.refl _ _⟩
  · have hH := holds_of_blockI (ss := zs) hg (by rw [Nat.mul_one] at hct; exact hct)
    refine (AnyG.slices_Compact_int Go.Proofs.Try.compactA g 0 cap zs w hH (by omega) (by omega)).mono ?_
    rintro e w' ⟨rfl, n, rfl⟩
    have hle := compact_le zs
    have hr := ownsRow_sortedI (n := n) (os := #[]) (ss := zs) (ts := Lib.compact zs ++ List.replicate (zs.length - (Lib.compact zs).length) 0) (by simp; omega) hb hg hnc hcm hcs
    rw [grow_empty] at hr
    refine ⟨_, rfl, ⟨by simp, ?_⟩, ?_⟩
    · rcases hr.2 with ⟨e, _⟩ | ⟨g', cap', cur', e, hb', hg', hnc', hcm', hcs', hct'⟩
      · cases e
      · injection e with e1 e2 e3
        injection e1 with e1
        injection e1 with e1
        subst e1 e3
        refine .inr ⟨g, cap, cur', rfl, hb', hg', by omega, hcm', hcs', ?_⟩
        have : (Lib.compact zs).length * 1 = min ((Lib.compact zs).length) (zs.length * 1) := by omega
        rw [this, ← List.take_take, hct', List.map_append, List.take_append_of_le_length (by simp), List.take_of_length_le (by simp)]
    · have := grownBy_sortedI (w := w) (g := g) (n := n) (os := #[]) (Lib.compact zs ++ List.replicate (zs.length - (Lib.compact zs).length) 0).toArray
      rw [grow_empty] at this
      exact (Below.refl _ _).grown this (by have := (Array.getElem?_eq_some_iff.1 hg).1; omega) (fun k e => by cases e; exact hb)

set_option maxHeartbeats 4000000 in
set_option maxRecDepth 100000 in
theorem past_changes (lo hi : Nat) (w : World) (A : Option Addr) (cap : Nat) (p : List TVersion) (h : Lies lo hi w (dVersion p) (.slice A p.length cap)) (hh : hi ≤ w.heap.size) (hsm : p.length ≤ 1048576) :
    Calls Try.prog 43 #[.slice A p.length cap] w (Slice .i64 w.heap.size (ticks p).length (ticks p) w) := by
  obtain ⟨i0, hi0, hz0, hz1, hz2⟩ := info_parts Nts.info
  obtain ⟨n, hn⟩ : ∃ n, p.length = n := ⟨_, rfl⟩
  have hwf : ∀ z ∈ ticks p, (Lit.int .i64 z).wf = true := fun z hz => by
    obtain ⟨V, hV, rfl⟩ := List.mem_map.1 (((ticks_all p).2 z).1 hz)
    obtain ⟨j, hj, rfl⟩ := List.getElem_of_mem hV
    obtain ⟨_, _, _, _, _, _, _, _, _, _, _, _, wf3, _⟩ := at_Version h hj
    rwa [List.getD_eq_getElem?_getD, List.getElem?_eq_getElem hj] at wf3
  have HW := Lib.hid hwf
  clear hwf
  rw [hn] at h hsm ⊢
  have HN := Lib.hid hn
  clear hn
  have h0 : OwnI .i64 3 w.heap.size (w.alloc (.cells #[] 3)) (.slice (some ⟨w.heap.size, 0, none⟩) 0 0) 0 ((p.take 0).map (·.f1)) := OwnI.made .i64 3 w (Nat.le_refl _)
  have hb0 : Below w.heap.size w (w.alloc (.cells #[] 3)) := (Below.refl _ _).alloc (Nat.le_refl _) _
  go_enter Try.func43, Try.ntmps43
  go_wp2
  go_loopw [3, 9] (fun v i wr => ∃ j : Nat, j ≤ n ∧ i = .int .i64 j ∧ OwnI .i64 3 w.heap.size wr v j ((p.take j).map (·.f1)) ∧ Below w.heap.size w wr) (fun _ i _ => n - (Go.RowKit.intOf i).toNat)
  case atStart => exact ⟨0, Nat.zero_le _, rfl, h0, hb0⟩
  case round =>
    obtain ⟨j, hj, rfl, hv, hb⟩ := hrel
    clear h0 hb0
    have hbs := hb.size
    by_cases hlt : j < n
    · obtain ⟨b, off, A5, c5, rfl, _, hbh, hc, _⟩ := at_Version (h.under hb hh) hlt
      have hnext : (p.take (j + 1)).map (·.f1) = (p.take j).map (·.f1) ++ [(p.getD j nVersion).f1] := by rw [take_next (by rw [HN.out]; exact hlt), List.map_append]; rfl
      have HX := Lib.hid hnext
      obtain ⟨V, hV⟩ : ∃ V, p.getD j nVersion = V := ⟨_, rfl⟩
      rw [hV] at hc HX
      obtain ⟨zs, hzs⟩ : ∃ zs, (p.take j).map (·.f1) = zs := ⟨_, rfl⟩
      rw [hzs] at hv HX
      have hl := hv.len
      obtain ⟨O, hO⟩ : ∃ O, O = Obj.cells (verCells V A5 c5).toArray 70 (0, 0) := ⟨_, rfl⟩
      have qB : Blk 70 wr.heap.size (verCells V A5 c5) (wr.alloc O) := by rw [hO]; exact Blk.new _ _ wr
      have y3 : (wr.alloc O).cell? ⟨wr.heap.size, 3, none⟩ = some (.int .i64 V.f1) := qB.at rfl
      have hv2 := (hv.alloc O).alloc (.cells #[.int .i64 V.f1] 3)
      have hcell : ((wr.alloc O).alloc (.cells #[.int .i64 V.f1] 3)).cell? ⟨wr.heap.size + 1, 0, none⟩ = some (.int .i64 V.f1) := by
        have := Blk.new 3 [.int .i64 V.f1] (wr.alloc O)
        rw [gsize_alloc] at this
        exact this.at rfl
      have hA : Below wr.heap.size wr ((wr.alloc O).alloc (.cells #[.int .i64 V.f1] 3)) := ((Below.refl _ _).alloc (Nat.le_refl _) _).alloc (by rw [gsize_alloc]; omega) _
      have hbA := hb.trans (hA.mono hbs)
      have hsA := hbA.size
      obtain ⟨c0, c1, c2, c3, c4, c5', c6, c7, c8⟩ := hc
      subst hO
      simp only [verCells] at y3 hv2 hcell hbA hsA
      clear hv hnext hV hzs qB hA hb
      go_wp2_with (at_builtin; refine wpList_append_one rfl _ _ 29 rfl w.heap.size 3 i0 _ 8 Try.underlying29 hi0 hz0 hz1 hz2 rfl _ j zs rfl hv2 (wr.heap.size + 1) 1 V.f1 rfl hcell ?c1 ?c2 ?c3 ?_; (case c1 => unfold maxLen; omega); (case c2 => omega); (case c3 => exact hsA); intro v3 w3 hv3 hb3)
      go_roundw
      case rel => exact ⟨j + 1, by omega, by go_num, by rw [HX.out]; exact hv3, hbA.trans hb3⟩
      case measure => simp [Go.RowKit.intOf]; omega
    · have hd : decide ((j : Int) < (n : Int)) = false := by simp; omega
      obtain rfl : j = n := by omega
      rw [← HN.out, List.take_length] at hv
      have hl : (p.map (·.f1)).length = p.length := by simp
      have hS := sort_row w.heap.size wr _ (p.map (·.f1)) (by rw [hl]; exact hv) (by rw [hl, HN.out]; exact hsm)
      obtain ⟨ss, hss⟩ : ∃ ss, (p.map (·.f1)).mergeSort (fun x y => decide (x ≤ y)) = ss := ⟨_, rfl⟩
      have hsl : ss.length = (p.map (·.f1)).length := by rw [← hss, List.length_mergeSort]
      have hsc : Lib.compact ss = ticks p := by rw [← hss]; exact sorted_ticks p
      rw [hss] at hS
      have HC := Lib.hid hsc
      have HP := Lib.hid hl
      have HS := Lib.hid hsl
      clear hss hsc hl hsl
      go_wp2_with fail
      go_at_call 67
      refine hS.mono ?_
      rintro e w2 ⟨rfl, ho2, hb2⟩
      have hC := compact_row w.heap.size w2 _ ss (by rw [HS.out]; exact ho2) (by rw [HS.out, HP.out, HN.out]; exact hsm)
      go_wp2_with fail
      go_at_call 68
      refine hC.mono ?_
      rintro e w3 ⟨v', rfl, ho3, hb3⟩
      rw [HC.out] at ho3
      obtain ⟨a', c', rfl, h1, h2, h3⟩ := ho3.own HW.out
      go_wp2
      go_ret
      exact ⟨a', c', rfl, h3, h1, h2, (hb.trans hb2).trans hb3⟩
end Go.Proofs.Ytldpgkbemgpacaa.Sites
