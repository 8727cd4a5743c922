/-
  The model's list of ticks: a number is put into an ascending list.
  Conditions: the list lies in memory, of at most 2^20 numbers.
-/
import Derived.Test.YtldpgkbemgpacaaPastMath
import Derived.Test.YtldpgkbemgpacaaRowCut
import Derived.Test.YtldpgkbemgpacaaCopy5
import Derived.Test.YtldpgkbemgpacaaStepAt
import Derived.Deep.RegionHeld3
import Derived.Deep.CutBlock
import Derived.Deep.DeepCutAuto
namespace Go.Proofs.Ytldpgkbemgpacaa.Sites
open Go Go.RowKit Go.Proofs.Ytldpgkbemgpacaa.Mem Go.Proofs.Ytldpgkbemgpacaa.Gen Go.Proofs.Ytldpgkbemgpacaa.Adr Go.Proofs.Ytldpgkbemgpacaa.Res Go.Proofs.Ytldpgkbemgpacaa.Draw

def Lower (zs : List Int) (x : Int) (j : Nat) : Prop := ∀ i, i < j → zs.getD i 0 < x
theorem put_at : ∀ {zs : List Int} {x : Int} {j : Nat}, j ≤ zs.length → Lower zs x j → (j < zs.length → ¬ zs.getD j 0 < x) → put zs x = if j < zs.length ∧ zs.getD j 0 = x then zs else zs.take j ++ [x] ++ zs.drop j
  | [], x, j, hj, _, _ => by
    obtain rfl : j = 0 := by simpa using hj
    simp [put]
  | y :: zs, x, 0, _, _, hn => by
    have := hn (by simp)
    simp only [List.getD_cons_zero] at this
    simp only [put]
    rw [if_neg this]
    by_cases e : y = x
    · simp [e]
    · simp [e]
  | y :: zs, x, j + 1, hj, hl, hn => by
    have h0 := hl 0 (by omega)
    simp only [List.getD_cons_zero] at h0
    have ih := put_at (zs := zs) (x := x) (j := j) (by simpa using hj) (fun i hi => by have := hl (i + 1) (by omega); simpa using this) (fun h => by have := hn (by simpa using h); simpa using this)
    simp only [put]
    rw [if_pos h0, ih]
    by_cases e : j < zs.length ∧ zs.getD j 0 = x
    · rw [if_pos e, if_pos (by simpa using e)]
    · rw [if_neg e, if_neg (by simpa using e)]
      simp
theorem lower_next {zs : List Int} {x : Int} {j : Nat} (h : Lower zs x j) (hj : zs.getD j 0 < x) : Lower zs x (j + 1) := fun i hi => by
  by_cases he : i = j
  · subst he; exact hj
  · exact h i (by omega)

set_option maxHeartbeats 4000000 in
set_option maxRecDepth 100000 in
theorem put_spec (lo hi : Nat) (W : World) (a : Option Addr) (n c : Nat) (zs : List Int) (x : Int) (hr : Row .i64 lo hi W a n zs) (hh : hi ≤ W.heap.size) (hn : n ≤ 1048576) (hc : n ≤ c) (hx : (Lit.int .i64 x).wf = true) :
    Calls Try.prog 59 #[.slice a n c, .int .i64 x] W (Slice .i64 W.heap.size (put zs x).length (put zs x) W) := by
  obtain ⟨i0, hi0, hz0, hz1, hz2⟩ := info_parts Nts.info
  have hl := hr.len
  obtain ⟨Z, hZ⟩ : ∃ Z, put zs x = Z := ⟨_, rfl⟩
  have hwf : ∀ z ∈ Z, (Lit.int .i64 z).wf = true := fun z hz => by
    rw [← hZ] at hz
    rcases put_mem.1 hz with rfl | h
    · exact hx
    · exact hr.wf z h
  have HWF := Lib.hid hwf
  have HZ := Lib.hid hZ
  have HL := Lib.hid hl
  rw [hZ]
  clear hZ hwf hl
  go_enter Try.func59, Try.ntmps59
  go_upto_block 0 with fail
  go_cut [5] (fun s wx => ∃ j : Nat, s = .int .i64 j ∧ j ≤ n ∧ Lower zs x j ∧ (j < n → ¬ zs.getD j 0 < x) ∧ W = wx)
  case first =>
    go_wp2_with fail
    go_loopw [5] (fun i wr => ∃ j : Nat, j ≤ n ∧ i = .int .i64 j ∧ Lower zs x j ∧ wr = W) (fun i _ => n - (Go.RowKit.intOf i).toNat)
    case atStart => exact ⟨0, Nat.zero_le _, rfl, fun i h => absurd h (by omega), rfl⟩
    case round =>
      obtain ⟨j, hj, rfl, hlw, rfl⟩ := hrel
      by_cases hlt : j < n
      · obtain ⟨b, off, rfl, _, _, hcl⟩ := hr.cell hlt
        by_cases he : zs.getD j 0 < x
        · have hd : decide (zs.getD j 0 < x) = true := by simpa using he
          have hl' := lower_next hlw he
          obtain ⟨y, hy⟩ : ∃ y, zs.getD j 0 = y := ⟨_, rfl⟩
          rw [hy] at hcl hd
          clear he hy hlw
          go_wp2
          go_roundw
          case rel => exact ⟨j + 1, by omega, by go_num, hl', trivial⟩
          case measure => simp [Go.RowKit.intOf]; omega
        · have hd : decide (zs.getD j 0 < x) = false := by simpa using he
          have HE := Lib.hid he
          obtain ⟨y, hy⟩ : ∃ y, zs.getD j 0 = y := ⟨_, rfl⟩
          rw [hy] at hcl hd
          clear he hy
          go_wp2_with fail
          go_meet
          case rel => exact ⟨j, rfl, hj, hlw, fun _ => HE.out, rfl⟩
      · have hd : decide ((j : Int) < (n : Int)) = false := by simp; omega
        go_wp2_with fail
        go_meet
        case rel => exact ⟨j, rfl, hj, hlw, fun h => absurd h hlt, rfl⟩
  case rest =>
    obtain ⟨j, rfl, hj, hlw, hge, rfl⟩ := hcut
    have hput := put_at (by rw [HL.out]; exact hj) hlw (by rw [HL.out]; exact hge)
    rw [HL.out, HZ.out] at hput
    clear hlw hge
    by_cases hsame : j < n ∧ zs.getD j 0 = x
    · rw [if_pos hsame] at hput
      obtain ⟨b, off, rfl, _, _, hcl⟩ := hr.cell hsame.1
      have hlt := hsame.1
      rw [hsame.2] at hcl
      have hd1 : decide ((j : Int) < (n : Int)) = true := by simp; omega
      have hd2 : (x == x) = true := by simp
      have hvE : OwnI .i64 3 W.heap.size (W.alloc (.cells #[] 3)) (.slice (some ⟨W.heap.size, 0, none⟩) 0 0) 0 [] := OwnI.made .i64 3 (base := W.heap.size) W (Nat.le_refl _)
      have hB : Below W.heap.size W (W.alloc (.cells #[] 3)) := (Below.refl _ _).alloc (Nat.le_refl _) _
      have hrE := hr.below hB
      clear hr hsame
      go_wp2_with (at_builtin; refine wpList_append_row rfl _ _ 29 rfl W.heap.size 3 i0 _ 8 Try.underlying29 hi0 hz0 hz1 hz2 rfl _ 0 [] rfl hvE lo hi (some ⟨b, off, none⟩) n c zs rfl hrE ?c3 ?c4 ?c5 ?_; (case c3 => unfold maxLen; omega); (case c4 => omega); (case c5 => exact hB.size); intro v' w' hv hb)
      go_ret
      rw [Nat.zero_add, List.nil_append, ← hput] at hv
      obtain ⟨xa, xc, rfl, x1, x2, x3⟩ := hv.own HWF.out
      rw [hput, HL.out] at *
      exact ⟨xa, xc, rfl, x3, x1, x2, hB.trans hb⟩
    · rw [if_neg hsame] at hput
      have HE := Lib.hid hput.symm
      have hZl : Z.length = n + 1 := by rw [hput]; have := HL.out; simp; omega
      have HZl := Lib.hid hZl
      have hcutA := fun w' => Nts.cut_head w' a n c j (by omega)
      have hr0 := hr
      obtain ⟨T, hT⟩ : ∃ T, (if c = j then a else Option.map (fun (x : Addr) => x.add j) a) = T := ⟨_, rfl⟩
      have hcutB : ∀ w', (Instr.slice 29 (.slice a n c) (some (.int .i64 (j : Int))) none none).run Try.prog w' = .ok (.slice T (n - j) (c - j)) w' := fun w' => by rw [← hT]; exact Nts.cut_tail w' a n c j (by omega)
      have hrT : ∀ w', Row .i64 lo hi w' a n zs → Row .i64 lo hi w' T (n - j) (zs.drop j) := fun w' h => by rw [← hT]; exact Nts.Row.tail h (by omega) hc
      clear hT
      have hr := Row.below hr (((Below.refl _ _).drew) : Below W.heap.size W W.drew)
      have hBW : Below W.heap.size W W.drew := (Below.refl _ _).drew
      clear hput hZl
      by_cases hlt : j < n
      · obtain ⟨b, off, rfl, _, _, hcl⟩ := hr0.cell hlt
        have hd1 : decide ((j : Int) < (n : Int)) = true := by simp; omega
        obtain ⟨y, hy⟩ : ∃ y, zs.getD j 0 = y := ⟨_, rfl⟩
        have hd2 : (y == x) = false := by simp only [beq_eq_false_iff_ne]; exact fun e => hsame ⟨hlt, hy.trans e⟩
        rw [hy] at hcl
        clear hsame hy hr0
        go_upto_region 6 with fail
        refine wp_region_held_drew (S := fun _ => True) (by kernel_rfl) trivial (fun _ => ?_)
        refine wpAnyH_take (i := 1) (v := ?vf1) (List.getElem?_toArray.trans rfl) (by kernel_rfl) (by kernel_rfl) (by kernel_rfl) (fun _ _ _ h => h) (Or.inl ⟨by rfl, ?yf1⟩) trivial ?rf1
        case yf1 => (intro w hSw; go_simp; try with_reducible rfl)
        try simp only [Act.put, List.setIfInBounds_toArray, List.set_cons_zero, List.set_cons_succ]
        refine wpAnyH_take (i := 2) (v := ?vf2) (List.getElem?_toArray.trans rfl) (by kernel_rfl) (by kernel_rfl) (by kernel_rfl) (fun _ _ _ h => h) (Or.inl ⟨by rfl, ?yf2⟩) trivial ?rf2
        case yf2 => (intro w hSw; go_simp; try with_reducible rfl)
        try simp only [Act.put, List.setIfInBounds_toArray, List.set_cons_zero, List.set_cons_succ]
        refine wpAnyH_take (i := 5) (v := ?vf5) (List.getElem?_toArray.trans rfl) (by kernel_rfl) (by kernel_rfl) (by kernel_rfl) (fun _ _ _ h => h) (Or.inl ⟨by rfl, ?yf5⟩) trivial ?rf5
        case yf5 => (intro w hSw; go_simp; try with_reducible rfl)
        try simp only [Act.put, List.setIfInBounds_toArray, List.set_cons_zero, List.set_cons_succ]
        refine wpAnyH_take (i := 8) (v := ?vf8) (List.getElem?_toArray.trans rfl) (by kernel_rfl) (by kernel_rfl) (by kernel_rfl) (fun _ _ _ h => h) (Or.inl ⟨by rfl, ?yf8⟩) trivial ?rf8
        case yf8 => (intro w hSw; go_simp; try with_reducible rfl)
        try simp only [Act.put, List.setIfInBounds_toArray, List.set_cons_zero, List.set_cons_succ]
        refine wpAnyH_take (i := 9) (v := ?vf9) (List.getElem?_toArray.trans rfl) (by kernel_rfl) (by kernel_rfl) (by kernel_rfl) (fun _ _ _ h => h) (Or.inl ⟨by rfl, ?yf9⟩) trivial ?rf9
        case yf9 => (intro w hSw; go_simp; try with_reducible rfl)
        try simp only [Act.put, List.setIfInBounds_toArray, List.set_cons_zero, List.set_cons_succ]
        refine wpAnyH_take (i := 3) (v := .slice (some (⟨b, off, none⟩ : Addr)) j c) (List.getElem?_toArray.trans rfl) (by kernel_rfl) (by kernel_rfl) (by kernel_rfl) (fun _ _ _ h => h) (Or.inl ⟨by rfl, ?yf3⟩) trivial ?rf3
        case yf3 => (intro w hSw; go_simp)
        try simp only [Act.put, List.setIfInBounds_toArray, List.set_cons_zero, List.set_cons_succ]
        refine wpAnyH_take (i := 10) (v := .slice T (n - j) (c - j)) (List.getElem?_toArray.trans rfl) (by kernel_rfl) (by kernel_rfl) (by kernel_rfl) (fun _ _ _ h => h) (Or.inl ⟨by rfl, ?yf10⟩) trivial ?rf10
        case yf10 => (intro w hSw; go_simp)
        try simp only [Act.put, List.setIfInBounds_toArray, List.set_cons_zero, List.set_cons_succ]
        clear hcutA hcutB
        obtain ⟨Wd, hWd⟩ : ∃ Wd, W.drew = Wd := ⟨_, rfl⟩
        have HSD := Lib.hid (show W.heap.size = Wd.heap.size by rw [← hWd]; rfl)
        rw [hWd] at hr hBW ⊢
        clear hWd
        refine wpAnyH_ready (rs := [0, 6]) (by kernel_rfl) (by simp) ?_
        refine (AllReadyH.cons (List.getElem?_toArray.trans rfl) (fun K hK => ?o0_1) (AllReadyH.cons (List.getElem?_toArray.trans rfl) (fun K hK => ?o6_1) AllReadyH.nil))
        case o0_1 =>
          go_simp
          have hA : Below Wd.heap.size Wd (Wd.alloc (.cells #[] 3)) := (Below.refl _ _).alloc (Nat.le_refl _) _
          have hr := hr.below hA
          have hv : OwnI .i64 3 W.heap.size (Wd.alloc (.cells #[] 3)) (.slice (some ⟨Wd.heap.size, 0, none⟩) 0 0) 0 [] := by have := OwnI.made .i64 3 Wd hBW.size; (try rw [gsize_alloc] at this); exact this
          have hBW := hBW.trans (hA.mono hBW.size)
          refine hK.out _ _ trivial (fun _ => ?_)
          clear hK K
          try simp only [Act.put, List.setIfInBounds_toArray, List.set_cons_zero, List.set_cons_succ]
          refine wpAnyH_ready (rs := [4, 6]) (by kernel_rfl) (by simp) ?_
          refine (AllReadyH.cons (List.getElem?_toArray.trans rfl) (fun K hK => ?o4_3) (AllReadyH.cons (List.getElem?_toArray.trans rfl) (fun K hK => ?o6_3) AllReadyH.nil))
          case o4_3 =>
            have hv0 := hv
            refine step_append_rows_at rfl _ _ 29 rfl W.heap.size 3 i0 _ 8 Try.underlying29 hi0 hz0 hz1 hz2 rfl _ 0 [] rfl hv lo hi (some (⟨b, off, none⟩ : Addr)) j c (zs.take j) rfl (Nts.Row.head hr (by omega)) ?c1_4 ?c2_4 ?c3_4 ?_
            case c1_4 => unfold maxLen; omega
            case c2_4 => omega
            case c3_4 => exact hBW.size
            intro v4 w4 hv hgr _
            rw [Nat.zero_add, List.nil_append] at hv
            have hA := OwnI.grown hv0 hgr hBW.size
            have hr := hr.under hA hh
            have hBW := hBW.trans hA
            clear hv0 hgr hA
            refine hK.out _ _ trivial (fun _ => ?_)
            clear hK K
            try simp only [Act.put, List.setIfInBounds_toArray, List.set_cons_zero, List.set_cons_succ]
            refine wpAnyH_ready (rs := [6]) (by kernel_rfl) (by simp) ?_
            refine (AllReadyH.cons (List.getElem?_toArray.trans rfl) (fun K hK => ?o6_5) AllReadyH.nil)
            case o6_5 =>
              go_simp
              have hA : Below w4.heap.size w4 (w4.alloc (.cells #[.int .i64 x] 3)) := (Below.refl _ _).alloc (Nat.le_refl _) _
              have hr := hr.below hA
              have hv := OwnI.below hv hA
              have c6 : (w4.alloc (.cells #[.int .i64 x] 3)).cell? ⟨w4.heap.size, 0, none⟩ = some (.int .i64 x) := by have := Blk.new 3 [.int .i64 x] w4; (try rw [gsize_alloc] at this); exact this.at rfl
              have hBW := hBW.trans (hA.mono hBW.size)
              refine hK.out _ _ trivial (fun _ => ?_)
              clear hK K
              try simp only [Act.put, List.setIfInBounds_toArray, List.set_cons_zero, List.set_cons_succ]
              refine wpAnyH_ready (rs := [7]) (by kernel_rfl) (by simp) ?_
              refine (AllReadyH.cons (List.getElem?_toArray.trans rfl) (fun K hK => ?o7_7) AllReadyH.nil)
              case o7_7 =>
                refine step_append_one rfl _ _ 29 rfl W.heap.size 3 i0 _ 8 Try.underlying29 hi0 hz0 hz1 hz2 rfl _ j (zs.take j) rfl hv _ 1 x rfl c6 ?c1_8 ?c2_8 ?c3_8 ?_
                case c1_8 => unfold maxLen; omega
                case c2_8 => omega
                case c3_8 => exact hBW.size
                intro v7 w7 hv hA
                have hr := hr.under hA hh
                have hBW := hBW.trans hA
                clear c6
                refine hK.out _ _ trivial (fun _ => ?_)
                clear hK K
                try simp only [Act.put, List.setIfInBounds_toArray, List.set_cons_zero, List.set_cons_succ]
                refine wpAnyH_ready (rs := [11]) (by kernel_rfl) (by simp) ?_
                refine (AllReadyH.cons (List.getElem?_toArray.trans rfl) (fun K hK => ?o11_9) AllReadyH.nil)
                case o11_9 =>
                  refine step_append_rows_at rfl _ _ 29 rfl W.heap.size 3 i0 _ 8 Try.underlying29 hi0 hz0 hz1 hz2 rfl _ (j + 1) (zs.take j ++ [x]) rfl hv lo hi T (n - j) (c - j) (zs.drop j) rfl (hrT _ hr) ?c1_10 ?c2_10 ?c3_10 ?_
                  case c1_10 => unfold maxLen; omega
                  case c2_10 => omega
                  case c3_10 => exact hBW.size
                  intro v11 w11 hv2 hgr _
                  have hBW := hBW.trans (OwnI.grown hv hgr hBW.size)
                  clear hgr hv
                  have hv := hv2
                  rw [HE.out, show j + 1 + (n - j) = n + 1 by omega] at hv
                  refine hK.out _ _ trivial (fun _ => ?_)
                  clear hK K
                  try simp only [Act.put, List.setIfInBounds_toArray, List.set_cons_zero, List.set_cons_succ]
                  refine wpAnyH_ready (rs := [12]) (by kernel_rfl) (by simp) ?_
                  refine (AllReadyH.cons (List.getElem?_toArray.trans rfl) (fun K hK => ?o12_11) AllReadyH.nil)
                  case o12_11 =>
                    go_simp
                    refine hK.out _ _ trivial (fun _ => ?_)
                    clear hK K
                    try simp only [Act.put, List.setIfInBounds_toArray, List.set_cons_zero, List.set_cons_succ]
                    refine wpAnyH_done (by kernel_rfl) ?_ _
                    obtain ⟨xa, xc, rfl, x1, x2, x3⟩ := hv.own HWF.out
                    have HZl := HZl.out
                    go_wp2
                    go_ret
                    rw [HZl]
                    exact ⟨xa, xc, rfl, x3, x1, x2, hBW⟩
          case o6_3 =>
            go_simp
            have hA : Below (Wd.alloc (.cells #[] 3)).heap.size (Wd.alloc (.cells #[] 3)) ((Wd.alloc (.cells #[] 3)).alloc (.cells #[.int .i64 x] 3)) := (Below.refl _ _).alloc (Nat.le_refl _) _
            have hr := hr.below hA
            have hv := OwnI.below hv hA
            have c6 : ((Wd.alloc (.cells #[] 3)).alloc (.cells #[.int .i64 x] 3)).cell? ⟨Wd.heap.size + 1, 0, none⟩ = some (.int .i64 x) := by have := Blk.new 3 [.int .i64 x] (Wd.alloc (.cells #[] 3)); (try rw [gsize_alloc] at this); exact this.at rfl
            have hBW := hBW.trans (hA.mono hBW.size)
            refine hK.out _ _ trivial (fun _ => ?_)
            clear hK K
            try simp only [Act.put, List.setIfInBounds_toArray, List.set_cons_zero, List.set_cons_succ]
            refine wpAnyH_ready (rs := [4]) (by kernel_rfl) (by simp) ?_
            refine (AllReadyH.cons (List.getElem?_toArray.trans rfl) (fun K hK => ?o4_14) AllReadyH.nil)
            case o4_14 =>
              have hv0 := hv
              refine step_append_rows_at rfl _ _ 29 rfl W.heap.size 3 i0 _ 8 Try.underlying29 hi0 hz0 hz1 hz2 rfl _ 0 [] rfl hv lo hi (some (⟨b, off, none⟩ : Addr)) j c (zs.take j) rfl (Nts.Row.head hr (by omega)) ?c1_15 ?c2_15 ?c3_15 ?_
              case c1_15 => unfold maxLen; omega
              case c2_15 => omega
              case c3_15 => exact hBW.size
              intro v4 w4 hv hgr _
              rw [Nat.zero_add, List.nil_append] at hv
              have hA := OwnI.grown hv0 hgr hBW.size
              have hr := hr.under hA hh
              have c6 : w4.cell? ⟨Wd.heap.size + 1, 0, none⟩ = some (.int .i64 x) := (Mem.cell_of_heap (hgr.block _ (Mem.cell_lt c6) (fun e => by simp only [Value.ownBlock] at e; injection e with e; dsimp only at e; omega))).trans c6
              have hBW := hBW.trans hA
              clear hv0 hgr hA
              refine hK.out _ _ trivial (fun _ => ?_)
              clear hK K
              try simp only [Act.put, List.setIfInBounds_toArray, List.set_cons_zero, List.set_cons_succ]
              refine wpAnyH_ready (rs := [7]) (by kernel_rfl) (by simp) ?_
              refine (AllReadyH.cons (List.getElem?_toArray.trans rfl) (fun K hK => ?o7_16) AllReadyH.nil)
              case o7_16 =>
                refine step_append_one rfl _ _ 29 rfl W.heap.size 3 i0 _ 8 Try.underlying29 hi0 hz0 hz1 hz2 rfl _ j (zs.take j) rfl hv _ 1 x rfl c6 ?c1_17 ?c2_17 ?c3_17 ?_
                case c1_17 => unfold maxLen; omega
                case c2_17 => omega
                case c3_17 => exact hBW.size
                intro v7 w7 hv hA
                have hr := hr.under hA hh
                have hBW := hBW.trans hA
                clear c6
                refine hK.out _ _ trivial (fun _ => ?_)
                clear hK K
                try simp only [Act.put, List.setIfInBounds_toArray, List.set_cons_zero, List.set_cons_succ]
                refine wpAnyH_ready (rs := [11]) (by kernel_rfl) (by simp) ?_
                refine (AllReadyH.cons (List.getElem?_toArray.trans rfl) (fun K hK => ?o11_18) AllReadyH.nil)
                case o11_18 =>
                  refine step_append_rows_at rfl _ _ 29 rfl W.heap.size 3 i0 _ 8 Try.underlying29 hi0 hz0 hz1 hz2 rfl _ (j + 1) (zs.take j ++ [x]) rfl hv lo hi T (n - j) (c - j) (zs.drop j) rfl (hrT _ hr) ?c1_19 ?c2_19 ?c3_19 ?_
                  case c1_19 => unfold maxLen; omega
                  case c2_19 => omega
                  case c3_19 => exact hBW.size
                  intro v11 w11 hv2 hgr _
                  have hBW := hBW.trans (OwnI.grown hv hgr hBW.size)
                  clear hgr hv
                  have hv := hv2
                  rw [HE.out, show j + 1 + (n - j) = n + 1 by omega] at hv
                  refine hK.out _ _ trivial (fun _ => ?_)
                  clear hK K
                  try simp only [Act.put, List.setIfInBounds_toArray, List.set_cons_zero, List.set_cons_succ]
                  refine wpAnyH_ready (rs := [12]) (by kernel_rfl) (by simp) ?_
                  refine (AllReadyH.cons (List.getElem?_toArray.trans rfl) (fun K hK => ?o12_20) AllReadyH.nil)
                  case o12_20 =>
                    go_simp
                    refine hK.out _ _ trivial (fun _ => ?_)
                    clear hK K
                    try simp only [Act.put, List.setIfInBounds_toArray, List.set_cons_zero, List.set_cons_succ]
                    refine wpAnyH_done (by kernel_rfl) ?_ _
                    obtain ⟨xa, xc, rfl, x1, x2, x3⟩ := hv.own HWF.out
                    have HZl := HZl.out
                    go_wp2
                    go_ret
                    rw [HZl]
                    exact ⟨xa, xc, rfl, x3, x1, x2, hBW⟩
        case o6_1 =>
          go_simp
          have hA : Below Wd.heap.size Wd (Wd.alloc (.cells #[.int .i64 x] 3)) := (Below.refl _ _).alloc (Nat.le_refl _) _
          have hr := hr.below hA
          have c6 : (Wd.alloc (.cells #[.int .i64 x] 3)).cell? ⟨Wd.heap.size, 0, none⟩ = some (.int .i64 x) := by have := Blk.new 3 [.int .i64 x] Wd; (try rw [gsize_alloc] at this); exact this.at rfl
          have hBW := hBW.trans (hA.mono hBW.size)
          refine hK.out _ _ trivial (fun _ => ?_)
          clear hK K
          try simp only [Act.put, List.setIfInBounds_toArray, List.set_cons_zero, List.set_cons_succ]
          refine wpAnyH_ready (rs := [0]) (by kernel_rfl) (by simp) ?_
          refine (AllReadyH.cons (List.getElem?_toArray.trans rfl) (fun K hK => ?o0_23) AllReadyH.nil)
          case o0_23 =>
            go_simp
            have hA : Below (Wd.alloc (.cells #[.int .i64 x] 3)).heap.size (Wd.alloc (.cells #[.int .i64 x] 3)) ((Wd.alloc (.cells #[.int .i64 x] 3)).alloc (.cells #[] 3)) := (Below.refl _ _).alloc (Nat.le_refl _) _
            have hr := hr.below hA
            have c6 := (Mem.cell_of_heap (hA.block _ (Mem.cell_lt c6))).trans c6
            have hv : OwnI .i64 3 W.heap.size ((Wd.alloc (.cells #[.int .i64 x] 3)).alloc (.cells #[] 3)) (.slice (some ⟨Wd.heap.size + 1, 0, none⟩) 0 0) 0 [] := by have := OwnI.made .i64 3 (Wd.alloc (.cells #[.int .i64 x] 3)) hBW.size; (try rw [gsize_alloc] at this); exact this
            have hBW := hBW.trans (hA.mono hBW.size)
            refine hK.out _ _ trivial (fun _ => ?_)
            clear hK K
            try simp only [Act.put, List.setIfInBounds_toArray, List.set_cons_zero, List.set_cons_succ]
            refine wpAnyH_ready (rs := [4]) (by kernel_rfl) (by simp) ?_
            refine (AllReadyH.cons (List.getElem?_toArray.trans rfl) (fun K hK => ?o4_25) AllReadyH.nil)
            case o4_25 =>
              have hv0 := hv
              refine step_append_rows_at rfl _ _ 29 rfl W.heap.size 3 i0 _ 8 Try.underlying29 hi0 hz0 hz1 hz2 rfl _ 0 [] rfl hv lo hi (some (⟨b, off, none⟩ : Addr)) j c (zs.take j) rfl (Nts.Row.head hr (by omega)) ?c1_26 ?c2_26 ?c3_26 ?_
              case c1_26 => unfold maxLen; omega
              case c2_26 => omega
              case c3_26 => exact hBW.size
              intro v4 w4 hv hgr _
              rw [Nat.zero_add, List.nil_append] at hv
              have hA := OwnI.grown hv0 hgr hBW.size
              have hr := hr.under hA hh
              have c6 : w4.cell? ⟨Wd.heap.size, 0, none⟩ = some (.int .i64 x) := (Mem.cell_of_heap (hgr.block _ (Mem.cell_lt c6) (fun e => by simp only [Value.ownBlock] at e; injection e with e; dsimp only at e; omega))).trans c6
              have hBW := hBW.trans hA
              clear hv0 hgr hA
              refine hK.out _ _ trivial (fun _ => ?_)
              clear hK K
              try simp only [Act.put, List.setIfInBounds_toArray, List.set_cons_zero, List.set_cons_succ]
              refine wpAnyH_ready (rs := [7]) (by kernel_rfl) (by simp) ?_
              refine (AllReadyH.cons (List.getElem?_toArray.trans rfl) (fun K hK => ?o7_27) AllReadyH.nil)
              case o7_27 =>
                refine step_append_one rfl _ _ 29 rfl W.heap.size 3 i0 _ 8 Try.underlying29 hi0 hz0 hz1 hz2 rfl _ j (zs.take j) rfl hv _ 1 x rfl c6 ?c1_28 ?c2_28 ?c3_28 ?_
                case c1_28 => unfold maxLen; omega
                case c2_28 => omega
                case c3_28 => exact hBW.size
                intro v7 w7 hv hA
                have hr := hr.under hA hh
                have hBW := hBW.trans hA
                clear c6
                refine hK.out _ _ trivial (fun _ => ?_)
                clear hK K
                try simp only [Act.put, List.setIfInBounds_toArray, List.set_cons_zero, List.set_cons_succ]
                refine wpAnyH_ready (rs := [11]) (by kernel_rfl) (by simp) ?_
                refine (AllReadyH.cons (List.getElem?_toArray.trans rfl) (fun K hK => ?o11_29) AllReadyH.nil)
                case o11_29 =>
                  refine step_append_rows_at rfl _ _ 29 rfl W.heap.size 3 i0 _ 8 Try.underlying29 hi0 hz0 hz1 hz2 rfl _ (j + 1) (zs.take j ++ [x]) rfl hv lo hi T (n - j) (c - j) (zs.drop j) rfl (hrT _ hr) ?c1_30 ?c2_30 ?c3_30 ?_
                  case c1_30 => unfold maxLen; omega
                  case c2_30 => omega
                  case c3_30 => exact hBW.size
                  intro v11 w11 hv2 hgr _
                  have hBW := hBW.trans (OwnI.grown hv hgr hBW.size)
                  clear hgr hv
                  have hv := hv2
                  rw [HE.out, show j + 1 + (n - j) = n + 1 by omega] at hv
                  refine hK.out _ _ trivial (fun _ => ?_)
                  clear hK K
                  try simp only [Act.put, List.setIfInBounds_toArray, List.set_cons_zero, List.set_cons_succ]
                  refine wpAnyH_ready (rs := [12]) (by kernel_rfl) (by simp) ?_
                  refine (AllReadyH.cons (List.getElem?_toArray.trans rfl) (fun K hK => ?o12_31) AllReadyH.nil)
                  case o12_31 =>
                    go_simp
                    refine hK.out _ _ trivial (fun _ => ?_)
                    clear hK K
                    try simp only [Act.put, List.setIfInBounds_toArray, List.set_cons_zero, List.set_cons_succ]
                    refine wpAnyH_done (by kernel_rfl) ?_ _
                    obtain ⟨xa, xc, rfl, x1, x2, x3⟩ := hv.own HWF.out
                    have HZl := HZl.out
                    go_wp2
                    go_ret
                    rw [HZl]
                    exact ⟨xa, xc, rfl, x3, x1, x2, hBW⟩
      · have hd1 : decide ((j : Int) < (n : Int)) = false := by simp; omega
        clear hsame hr0
        go_upto_region 6 with fail
        refine wp_region_held_drew (S := fun _ => True) (by kernel_rfl) trivial (fun _ => ?_)
        refine wpAnyH_take (i := 1) (v := ?vs1) (List.getElem?_toArray.trans rfl) (by kernel_rfl) (by kernel_rfl) (by kernel_rfl) (fun _ _ _ h => h) (Or.inl ⟨by rfl, ?ys1⟩) trivial ?rs1
        case ys1 => (intro w hSw; go_simp; try with_reducible rfl)
        try simp only [Act.put, List.setIfInBounds_toArray, List.set_cons_zero, List.set_cons_succ]
        refine wpAnyH_take (i := 2) (v := ?vs2) (List.getElem?_toArray.trans rfl) (by kernel_rfl) (by kernel_rfl) (by kernel_rfl) (fun _ _ _ h => h) (Or.inl ⟨by rfl, ?ys2⟩) trivial ?rs2
        case ys2 => (intro w hSw; go_simp; try with_reducible rfl)
        try simp only [Act.put, List.setIfInBounds_toArray, List.set_cons_zero, List.set_cons_succ]
        refine wpAnyH_take (i := 5) (v := ?vs5) (List.getElem?_toArray.trans rfl) (by kernel_rfl) (by kernel_rfl) (by kernel_rfl) (fun _ _ _ h => h) (Or.inl ⟨by rfl, ?ys5⟩) trivial ?rs5
        case ys5 => (intro w hSw; go_simp; try with_reducible rfl)
        try simp only [Act.put, List.setIfInBounds_toArray, List.set_cons_zero, List.set_cons_succ]
        refine wpAnyH_take (i := 8) (v := ?vs8) (List.getElem?_toArray.trans rfl) (by kernel_rfl) (by kernel_rfl) (by kernel_rfl) (fun _ _ _ h => h) (Or.inl ⟨by rfl, ?ys8⟩) trivial ?rs8
        case ys8 => (intro w hSw; go_simp; try with_reducible rfl)
        try simp only [Act.put, List.setIfInBounds_toArray, List.set_cons_zero, List.set_cons_succ]
        refine wpAnyH_take (i := 9) (v := ?vs9) (List.getElem?_toArray.trans rfl) (by kernel_rfl) (by kernel_rfl) (by kernel_rfl) (fun _ _ _ h => h) (Or.inl ⟨by rfl, ?ys9⟩) trivial ?rs9
        case ys9 => (intro w hSw; go_simp; try with_reducible rfl)
        try simp only [Act.put, List.setIfInBounds_toArray, List.set_cons_zero, List.set_cons_succ]
        refine wpAnyH_take (i := 3) (v := .slice a j c) (List.getElem?_toArray.trans rfl) (by kernel_rfl) (by kernel_rfl) (by kernel_rfl) (fun _ _ _ h => h) (Or.inl ⟨by rfl, ?ys3⟩) trivial ?rs3
        case ys3 => (intro w hSw; go_simp)
        try simp only [Act.put, List.setIfInBounds_toArray, List.set_cons_zero, List.set_cons_succ]
        refine wpAnyH_take (i := 10) (v := .slice T (n - j) (c - j)) (List.getElem?_toArray.trans rfl) (by kernel_rfl) (by kernel_rfl) (by kernel_rfl) (fun _ _ _ h => h) (Or.inl ⟨by rfl, ?ys10⟩) trivial ?rs10
        case ys10 => (intro w hSw; go_simp)
        try simp only [Act.put, List.setIfInBounds_toArray, List.set_cons_zero, List.set_cons_succ]
        clear hcutA hcutB
        obtain ⟨Wd, hWd⟩ : ∃ Wd, W.drew = Wd := ⟨_, rfl⟩
        have HSD := Lib.hid (show W.heap.size = Wd.heap.size by rw [← hWd]; rfl)
        rw [hWd] at hr hBW ⊢
        clear hWd
        refine wpAnyH_ready (rs := [0, 6]) (by kernel_rfl) (by simp) ?_
        refine (AllReadyH.cons (List.getElem?_toArray.trans rfl) (fun K hK => ?o0_33) (AllReadyH.cons (List.getElem?_toArray.trans rfl) (fun K hK => ?o6_33) AllReadyH.nil))
        case o0_33 =>
          go_simp
          have hA : Below Wd.heap.size Wd (Wd.alloc (.cells #[] 3)) := (Below.refl _ _).alloc (Nat.le_refl _) _
          have hr := hr.below hA
          have hv : OwnI .i64 3 W.heap.size (Wd.alloc (.cells #[] 3)) (.slice (some ⟨Wd.heap.size, 0, none⟩) 0 0) 0 [] := by have := OwnI.made .i64 3 Wd hBW.size; (try rw [gsize_alloc] at this); exact this
          have hBW := hBW.trans (hA.mono hBW.size)
          refine hK.out _ _ trivial (fun _ => ?_)
          clear hK K
          try simp only [Act.put, List.setIfInBounds_toArray, List.set_cons_zero, List.set_cons_succ]
          refine wpAnyH_ready (rs := [4, 6]) (by kernel_rfl) (by simp) ?_
          refine (AllReadyH.cons (List.getElem?_toArray.trans rfl) (fun K hK => ?o4_35) (AllReadyH.cons (List.getElem?_toArray.trans rfl) (fun K hK => ?o6_35) AllReadyH.nil))
          case o4_35 =>
            have hv0 := hv
            refine step_append_rows_at rfl _ _ 29 rfl W.heap.size 3 i0 _ 8 Try.underlying29 hi0 hz0 hz1 hz2 rfl _ 0 [] rfl hv lo hi a j c (zs.take j) rfl (Nts.Row.head hr (by omega)) ?c1_36 ?c2_36 ?c3_36 ?_
            case c1_36 => unfold maxLen; omega
            case c2_36 => omega
            case c3_36 => exact hBW.size
            intro v4 w4 hv hgr _
            rw [Nat.zero_add, List.nil_append] at hv
            have hA := OwnI.grown hv0 hgr hBW.size
            have hr := hr.under hA hh
            have hBW := hBW.trans hA
            clear hv0 hgr hA
            refine hK.out _ _ trivial (fun _ => ?_)
            clear hK K
            try simp only [Act.put, List.setIfInBounds_toArray, List.set_cons_zero, List.set_cons_succ]
            refine wpAnyH_ready (rs := [6]) (by kernel_rfl) (by simp) ?_
            refine (AllReadyH.cons (List.getElem?_toArray.trans rfl) (fun K hK => ?o6_37) AllReadyH.nil)
            case o6_37 =>
              go_simp
              have hA : Below w4.heap.size w4 (w4.alloc (.cells #[.int .i64 x] 3)) := (Below.refl _ _).alloc (Nat.le_refl _) _
              have hr := hr.below hA
              have hv := OwnI.below hv hA
              have c6 : (w4.alloc (.cells #[.int .i64 x] 3)).cell? ⟨w4.heap.size, 0, none⟩ = some (.int .i64 x) := by have := Blk.new 3 [.int .i64 x] w4; (try rw [gsize_alloc] at this); exact this.at rfl
              have hBW := hBW.trans (hA.mono hBW.size)
              refine hK.out _ _ trivial (fun _ => ?_)
              clear hK K
              try simp only [Act.put, List.setIfInBounds_toArray, List.set_cons_zero, List.set_cons_succ]
              refine wpAnyH_ready (rs := [7]) (by kernel_rfl) (by simp) ?_
              refine (AllReadyH.cons (List.getElem?_toArray.trans rfl) (fun K hK => ?o7_39) AllReadyH.nil)
              case o7_39 =>
                refine step_append_one rfl _ _ 29 rfl W.heap.size 3 i0 _ 8 Try.underlying29 hi0 hz0 hz1 hz2 rfl _ j (zs.take j) rfl hv _ 1 x rfl c6 ?c1_40 ?c2_40 ?c3_40 ?_
                case c1_40 => unfold maxLen; omega
                case c2_40 => omega
                case c3_40 => exact hBW.size
                intro v7 w7 hv hA
                have hr := hr.under hA hh
                have hBW := hBW.trans hA
                clear c6
                refine hK.out _ _ trivial (fun _ => ?_)
                clear hK K
                try simp only [Act.put, List.setIfInBounds_toArray, List.set_cons_zero, List.set_cons_succ]
                refine wpAnyH_ready (rs := [11]) (by kernel_rfl) (by simp) ?_
                refine (AllReadyH.cons (List.getElem?_toArray.trans rfl) (fun K hK => ?o11_41) AllReadyH.nil)
                case o11_41 =>
                  refine step_append_rows_at rfl _ _ 29 rfl W.heap.size 3 i0 _ 8 Try.underlying29 hi0 hz0 hz1 hz2 rfl _ (j + 1) (zs.take j ++ [x]) rfl hv lo hi T (n - j) (c - j) (zs.drop j) rfl (hrT _ hr) ?c1_42 ?c2_42 ?c3_42 ?_
                  case c1_42 => unfold maxLen; omega
                  case c2_42 => omega
                  case c3_42 => exact hBW.size
                  intro v11 w11 hv2 hgr _
                  have hBW := hBW.trans (OwnI.grown hv hgr hBW.size)
                  clear hgr hv
                  have hv := hv2
                  rw [HE.out, show j + 1 + (n - j) = n + 1 by omega] at hv
                  refine hK.out _ _ trivial (fun _ => ?_)
                  clear hK K
                  try simp only [Act.put, List.setIfInBounds_toArray, List.set_cons_zero, List.set_cons_succ]
                  refine wpAnyH_ready (rs := [12]) (by kernel_rfl) (by simp) ?_
                  refine (AllReadyH.cons (List.getElem?_toArray.trans rfl) (fun K hK => ?o12_43) AllReadyH.nil)
                  case o12_43 =>
                    go_simp
                    refine hK.out _ _ trivial (fun _ => ?_)
                    clear hK K
                    try simp only [Act.put, List.setIfInBounds_toArray, List.set_cons_zero, List.set_cons_succ]
                    refine wpAnyH_done (by kernel_rfl) ?_ _
                    obtain ⟨xa, xc, rfl, x1, x2, x3⟩ := hv.own HWF.out
                    have HZl := HZl.out
                    go_wp2
                    go_ret
                    rw [HZl]
                    exact ⟨xa, xc, rfl, x3, x1, x2, hBW⟩
          case o6_35 =>
            go_simp
            have hA : Below (Wd.alloc (.cells #[] 3)).heap.size (Wd.alloc (.cells #[] 3)) ((Wd.alloc (.cells #[] 3)).alloc (.cells #[.int .i64 x] 3)) := (Below.refl _ _).alloc (Nat.le_refl _) _
            have hr := hr.below hA
            have hv := OwnI.below hv hA
            have c6 : ((Wd.alloc (.cells #[] 3)).alloc (.cells #[.int .i64 x] 3)).cell? ⟨Wd.heap.size + 1, 0, none⟩ = some (.int .i64 x) := by have := Blk.new 3 [.int .i64 x] (Wd.alloc (.cells #[] 3)); (try rw [gsize_alloc] at this); exact this.at rfl
            have hBW := hBW.trans (hA.mono hBW.size)
            refine hK.out _ _ trivial (fun _ => ?_)
            clear hK K
            try simp only [Act.put, List.setIfInBounds_toArray, List.set_cons_zero, List.set_cons_succ]
            refine wpAnyH_ready (rs := [4]) (by kernel_rfl) (by simp) ?_
            refine (AllReadyH.cons (List.getElem?_toArray.trans rfl) (fun K hK => ?o4_46) AllReadyH.nil)
            case o4_46 =>
              have hv0 := hv
              refine step_append_rows_at rfl _ _ 29 rfl W.heap.size 3 i0 _ 8 Try.underlying29 hi0 hz0 hz1 hz2 rfl _ 0 [] rfl hv lo hi a j c (zs.take j) rfl (Nts.Row.head hr (by omega)) ?c1_47 ?c2_47 ?c3_47 ?_
              case c1_47 => unfold maxLen; omega
              case c2_47 => omega
              case c3_47 => exact hBW.size
              intro v4 w4 hv hgr _
              rw [Nat.zero_add, List.nil_append] at hv
              have hA := OwnI.grown hv0 hgr hBW.size
              have hr := hr.under hA hh
              have c6 : w4.cell? ⟨Wd.heap.size + 1, 0, none⟩ = some (.int .i64 x) := (Mem.cell_of_heap (hgr.block _ (Mem.cell_lt c6) (fun e => by simp only [Value.ownBlock] at e; injection e with e; dsimp only at e; omega))).trans c6
              have hBW := hBW.trans hA
              clear hv0 hgr hA
              refine hK.out _ _ trivial (fun _ => ?_)
              clear hK K
              try simp only [Act.put, List.setIfInBounds_toArray, List.set_cons_zero, List.set_cons_succ]
              refine wpAnyH_ready (rs := [7]) (by kernel_rfl) (by simp) ?_
              refine (AllReadyH.cons (List.getElem?_toArray.trans rfl) (fun K hK => ?o7_48) AllReadyH.nil)
              case o7_48 =>
                refine step_append_one rfl _ _ 29 rfl W.heap.size 3 i0 _ 8 Try.underlying29 hi0 hz0 hz1 hz2 rfl _ j (zs.take j) rfl hv _ 1 x rfl c6 ?c1_49 ?c2_49 ?c3_49 ?_
                case c1_49 => unfold maxLen; omega
                case c2_49 => omega
                case c3_49 => exact hBW.size
                intro v7 w7 hv hA
                have hr := hr.under hA hh
                have hBW := hBW.trans hA
                clear c6
                refine hK.out _ _ trivial (fun _ => ?_)
                clear hK K
                try simp only [Act.put, List.setIfInBounds_toArray, List.set_cons_zero, List.set_cons_succ]
                refine wpAnyH_ready (rs := [11]) (by kernel_rfl) (by simp) ?_
                refine (AllReadyH.cons (List.getElem?_toArray.trans rfl) (fun K hK => ?o11_50) AllReadyH.nil)
                case o11_50 =>
                  refine step_append_rows_at rfl _ _ 29 rfl W.heap.size 3 i0 _ 8 Try.underlying29 hi0 hz0 hz1 hz2 rfl _ (j + 1) (zs.take j ++ [x]) rfl hv lo hi T (n - j) (c - j) (zs.drop j) rfl (hrT _ hr) ?c1_51 ?c2_51 ?c3_51 ?_
                  case c1_51 => unfold maxLen; omega
                  case c2_51 => omega
                  case c3_51 => exact hBW.size
                  intro v11 w11 hv2 hgr _
                  have hBW := hBW.trans (OwnI.grown hv hgr hBW.size)
                  clear hgr hv
                  have hv := hv2
                  rw [HE.out, show j + 1 + (n - j) = n + 1 by omega] at hv
                  refine hK.out _ _ trivial (fun _ => ?_)
                  clear hK K
                  try simp only [Act.put, List.setIfInBounds_toArray, List.set_cons_zero, List.set_cons_succ]
                  refine wpAnyH_ready (rs := [12]) (by kernel_rfl) (by simp) ?_
                  refine (AllReadyH.cons (List.getElem?_toArray.trans rfl) (fun K hK => ?o12_52) AllReadyH.nil)
                  case o12_52 =>
                    go_simp
                    refine hK.out _ _ trivial (fun _ => ?_)
                    clear hK K
                    try simp only [Act.put, List.setIfInBounds_toArray, List.set_cons_zero, List.set_cons_succ]
                    refine wpAnyH_done (by kernel_rfl) ?_ _
                    obtain ⟨xa, xc, rfl, x1, x2, x3⟩ := hv.own HWF.out
                    have HZl := HZl.out
                    go_wp2
                    go_ret
                    rw [HZl]
                    exact ⟨xa, xc, rfl, x3, x1, x2, hBW⟩
        case o6_33 =>
          go_simp
          have hA : Below Wd.heap.size Wd (Wd.alloc (.cells #[.int .i64 x] 3)) := (Below.refl _ _).alloc (Nat.le_refl _) _
          have hr := hr.below hA
          have c6 : (Wd.alloc (.cells #[.int .i64 x] 3)).cell? ⟨Wd.heap.size, 0, none⟩ = some (.int .i64 x) := by have := Blk.new 3 [.int .i64 x] Wd; (try rw [gsize_alloc] at this); exact this.at rfl
          have hBW := hBW.trans (hA.mono hBW.size)
          refine hK.out _ _ trivial (fun _ => ?_)
          clear hK K
          try simp only [Act.put, List.setIfInBounds_toArray, List.set_cons_zero, List.set_cons_succ]
          refine wpAnyH_ready (rs := [0]) (by kernel_rfl) (by simp) ?_
          refine (AllReadyH.cons (List.getElem?_toArray.trans rfl) (fun K hK => ?o0_55) AllReadyH.nil)
          case o0_55 =>
            go_simp
            have hA : Below (Wd.alloc (.cells #[.int .i64 x] 3)).heap.size (Wd.alloc (.cells #[.int .i64 x] 3)) ((Wd.alloc (.cells #[.int .i64 x] 3)).alloc (.cells #[] 3)) := (Below.refl _ _).alloc (Nat.le_refl _) _
            have hr := hr.below hA
            have c6 := (Mem.cell_of_heap (hA.block _ (Mem.cell_lt c6))).trans c6
            have hv : OwnI .i64 3 W.heap.size ((Wd.alloc (.cells #[.int .i64 x] 3)).alloc (.cells #[] 3)) (.slice (some ⟨Wd.heap.size + 1, 0, none⟩) 0 0) 0 [] := by have := OwnI.made .i64 3 (Wd.alloc (.cells #[.int .i64 x] 3)) hBW.size; (try rw [gsize_alloc] at this); exact this
            have hBW := hBW.trans (hA.mono hBW.size)
            refine hK.out _ _ trivial (fun _ => ?_)
            clear hK K
            try simp only [Act.put, List.setIfInBounds_toArray, List.set_cons_zero, List.set_cons_succ]
            refine wpAnyH_ready (rs := [4]) (by kernel_rfl) (by simp) ?_
            refine (AllReadyH.cons (List.getElem?_toArray.trans rfl) (fun K hK => ?o4_57) AllReadyH.nil)
            case o4_57 =>
              have hv0 := hv
              refine step_append_rows_at rfl _ _ 29 rfl W.heap.size 3 i0 _ 8 Try.underlying29 hi0 hz0 hz1 hz2 rfl _ 0 [] rfl hv lo hi a j c (zs.take j) rfl (Nts.Row.head hr (by omega)) ?c1_58 ?c2_58 ?c3_58 ?_
              case c1_58 => unfold maxLen; omega
              case c2_58 => omega
              case c3_58 => exact hBW.size
              intro v4 w4 hv hgr _
              rw [Nat.zero_add, List.nil_append] at hv
              have hA := OwnI.grown hv0 hgr hBW.size
              have hr := hr.under hA hh
              have c6 : w4.cell? ⟨Wd.heap.size, 0, none⟩ = some (.int .i64 x) := (Mem.cell_of_heap (hgr.block _ (Mem.cell_lt c6) (fun e => by simp only [Value.ownBlock] at e; injection e with e; dsimp only at e; omega))).trans c6
              have hBW := hBW.trans hA
              clear hv0 hgr hA
              refine hK.out _ _ trivial (fun _ => ?_)
              clear hK K
              try simp only [Act.put, List.setIfInBounds_toArray, List.set_cons_zero, List.set_cons_succ]
              refine wpAnyH_ready (rs := [7]) (by kernel_rfl) (by simp) ?_
              refine (AllReadyH.cons (List.getElem?_toArray.trans rfl) (fun K hK => ?o7_59) AllReadyH.nil)
              case o7_59 =>
                refine step_append_one rfl _ _ 29 rfl W.heap.size 3 i0 _ 8 Try.underlying29 hi0 hz0 hz1 hz2 rfl _ j (zs.take j) rfl hv _ 1 x rfl c6 ?c1_60 ?c2_60 ?c3_60 ?_
                case c1_60 => unfold maxLen; omega
                case c2_60 => omega
                case c3_60 => exact hBW.size
                intro v7 w7 hv hA
                have hr := hr.under hA hh
                have hBW := hBW.trans hA
                clear c6
                refine hK.out _ _ trivial (fun _ => ?_)
                clear hK K
                try simp only [Act.put, List.setIfInBounds_toArray, List.set_cons_zero, List.set_cons_succ]
                refine wpAnyH_ready (rs := [11]) (by kernel_rfl) (by simp) ?_
                refine (AllReadyH.cons (List.getElem?_toArray.trans rfl) (fun K hK => ?o11_61) AllReadyH.nil)
                case o11_61 =>
                  refine step_append_rows_at rfl _ _ 29 rfl W.heap.size 3 i0 _ 8 Try.underlying29 hi0 hz0 hz1 hz2 rfl _ (j + 1) (zs.take j ++ [x]) rfl hv lo hi T (n - j) (c - j) (zs.drop j) rfl (hrT _ hr) ?c1_62 ?c2_62 ?c3_62 ?_
                  case c1_62 => unfold maxLen; omega
                  case c2_62 => omega
                  case c3_62 => exact hBW.size
                  intro v11 w11 hv2 hgr _
                  have hBW := hBW.trans (OwnI.grown hv hgr hBW.size)
                  clear hgr hv
                  have hv := hv2
                  rw [HE.out, show j + 1 + (n - j) = n + 1 by omega] at hv
                  refine hK.out _ _ trivial (fun _ => ?_)
                  clear hK K
                  try simp only [Act.put, List.setIfInBounds_toArray, List.set_cons_zero, List.set_cons_succ]
                  refine wpAnyH_ready (rs := [12]) (by kernel_rfl) (by simp) ?_
                  refine (AllReadyH.cons (List.getElem?_toArray.trans rfl) (fun K hK => ?o12_63) AllReadyH.nil)
                  case o12_63 =>
                    go_simp
                    refine hK.out _ _ trivial (fun _ => ?_)
                    clear hK K
                    try simp only [Act.put, List.setIfInBounds_toArray, List.set_cons_zero, List.set_cons_succ]
                    refine wpAnyH_done (by kernel_rfl) ?_ _
                    obtain ⟨xa, xc, rfl, x1, x2, x3⟩ := hv.own HWF.out
                    have HZl := HZl.out
                    go_wp2
                    go_ret
                    rw [HZl]
                    exact ⟨xa, xc, rfl, x3, x1, x2, hBW⟩
end Go.Proofs.Ytldpgkbemgpacaa.Sites
