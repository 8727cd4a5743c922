/-
  The machine, the program: copies of states; the state after a step, or the state as it is where no step can be made.
  Conditions: the rows lie in memory, with 2^20 numbers at most.
-/
import Derived.Test.YtbohkohccnieiaaMachWI
namespace Go.Proofs.Ytbohkohccnieiaa.Mach
set_option linter.unusedVariables false
open Go Go.RowKit Go.Proofs.Ytbohkohccnieiaa.Mem Go.Proofs.Ytbohkohccnieiaa.Gen Go.Proofs.Ytbohkohccnieiaa.Scripts

set_option maxRecDepth 100000 in
theorem ints_copy (w : World) (a : Option Addr) (c : Nat) (zs : List Int) (h : Lies 0 w.heap.size w (ints zs) (.slice a zs.length c)) (hm : zs.length ≤ 1048576) :
    Calls Try.prog 72 #[.slice a zs.length c] w fun e w' => ∃ (x : Option Addr) (y : Nat), e = .returned (.slice x zs.length y) ∧ OwnD w.heap.size w'.heap.size w' (ints zs) (.slice x zs.length y) ∧ Below w.heap.size w w' := by
  obtain ⟨i0, hi0, hz0, hz1, hz2⟩ := info_parts Nts.info
  have hs := OwnI.made .i64 3 (base := w.heap.size) w (Nat.le_refl _)
  have hb := (Below.refl w.heap.size w).alloc (Nat.le_refl _) (.cells #[] 3)
  have hr := h.row'.1
  have hwf := hr.wf
  have hr1 := hr.under hb (Nat.le_refl _)
  obtain ⟨n, hn⟩ : ∃ n, zs.length = n := ⟨_, rfl⟩
  have HN := Lib.hid hn
  rw [hn] at hr hr1 hm ⊢
  clear hn h hr
  go_enter Try.func72, Try.ntmps72
  go_wp2_with (at_builtin; refine wpList_append_row rfl _ _ 25 rfl w.heap.size 3 i0 _ 8 Try.underlying25 hi0 hz0 hz1 hz2 rfl _ 0 [] rfl hs 0 w.heap.size a n c zs rfl hr1 (by unfold maxLen; omega) (by omega) (by simp) ?_; intro v' w' ho hb')
  go_ret
  rw [List.nil_append, Nat.zero_add] at ho
  obtain ⟨x, y, rfl, h1, h2, h3⟩ := ho.own hwf
  have hn := HN.out
  subst hn
  exact ⟨x, y, rfl, Owns.of_row h3 h1 h2 (fun t a b => ⟨a, b⟩), hb.trans hb'⟩

set_option maxHeartbeats 1600000 in
set_option maxRecDepth 100000 in
theorem copy_state (w : World) (P : TState) (a1 : Option Addr) (c1 : Nat) (a2 : Option Addr) (c2 : Nat) (a3 : Option Addr) (c3 : Nat) (h : St w P a1 c1 a2 c2 a3 c3) (hm1 : P.f1.length ≤ 1048576) (hm2 : P.f2.length ≤ 1048576) (hm3 : P.f3.length ≤ 1048576) :
    Calls Try.prog 41 #[.agg #[.int .i64 P.f0, .slice a1 P.f1.length c1, .slice a2 P.f2.length c2, .slice a3 P.f3.length c3]] w (GivenS w P) := by
  obtain ⟨W, hWW⟩ : ∃ Z, (w.alloc (.cells #[.int .i64 P.f0, .slice a1 P.f1.length c1, .slice a2 P.f2.length c2, .slice a3 P.f3.length c3] 27)).alloc (.cells #[.int .i64 0, .slice none 0 0, .slice none 0 0, .slice none 0 0] 27) = Z := ⟨_, rfl⟩
  have qB : Blk 27 w.heap.size [.int .i64 P.f0, .slice a1 P.f1.length c1, .slice a2 P.f2.length c2, .slice a3 P.f3.length c3] W := by rw [← hWW]; exact (Blk.new _ [.int .i64 P.f0, .slice a1 P.f1.length c1, .slice a2 P.f2.length c2, .slice a3 P.f3.length c3] w).alloc _
  have qR : Blk 27 (w.heap.size + 1) [.int .i64 0, .slice none 0 0, .slice none 0 0, .slice none 0 0] W := by
    have := Blk.new 27 [.int .i64 0, .slice none 0 0, .slice none 0 0, .slice none 0 0] (w.alloc (.cells #[.int .i64 P.f0, .slice a1 P.f1.length c1, .slice a2 P.f2.length c2, .slice a3 P.f3.length c3] 27))
    rw [gsize_alloc] at this
    rw [← hWW]; exact this
  have hB : Below w.heap.size w W := by rw [← hWW]; exact ((Below.refl _ _).alloc (Nat.le_refl _) _).alloc (by rw [gsize_alloc]; omega) _
  have hz : w.heap.size + 2 ≤ W.heap.size := qR.lt
  have h1 := fun (W' : World) (hb : Below w.heap.size w W') => (h.r1.below hb).more (Nat.le_refl 0) hb.size
  have h2 := fun (W' : World) (hb : Below w.heap.size w W') => (h.r2.below hb).more (Nat.le_refl 0) hb.size
  have h3 := fun (W' : World) (hb : Below w.heap.size w W') => (h.r3.below hb).more (Nat.le_refl 0) hb.size
  have HW := Lib.hid hWW
  clear hWW h
  go_enter Try.func41, Try.ntmps41
  go_upto_region 1 with fail
  rw [HW.out]
  obtain ⟨V4, hV4⟩ : ∃ V4, W.drew = V4 := ⟨_, rfl⟩
  replace qB := qB.drew
  replace qR := qR.drew
  have hB := gbelow_drewN hB 1
  rw [hV4] at qB qR
  replace hB : Below w.heap.size w V4 := by rw [← hV4]; exact hB
  have hzV : w.heap.size + 1 < V4.heap.size := qR.lt
  have s9 : V4.cell? ⟨w.heap.size, 0, none⟩ = some (.int .i64 P.f0) ∧ V4.cell? ⟨w.heap.size, 1, none⟩ = some (.slice a1 P.f1.length c1) ∧ V4.cell? ⟨w.heap.size, 2, none⟩ = some (.slice a2 P.f2.length c2) ∧ V4.cell? ⟨w.heap.size, 3, none⟩ = some (.slice a3 P.f3.length c3) := ⟨qB.at rfl, qB.at rfl, qB.at rfl, qB.at rfl⟩
  refine wp_region_held_drew (S := (fun w' => w'.cell? ⟨w.heap.size, 0, none⟩ = some (.int .i64 P.f0) ∧ w'.cell? ⟨w.heap.size, 1, none⟩ = some (.slice a1 P.f1.length c1) ∧ w'.cell? ⟨w.heap.size, 2, none⟩ = some (.slice a2 P.f2.length c2) ∧ w'.cell? ⟨w.heap.size, 3, none⟩ = some (.slice a3 P.f3.length c3))) (by kernel_rfl) (by rw [hV4]; exact s9) (fun hHeld => ?_)
  rw [hV4]
  clear hV4
  refine wpAnyH_take (i := 0) (v := ?vc0) (List.getElem?_toArray.trans rfl) (by kernel_rfl) (by kernel_rfl) (by kernel_rfl) (fun _ _ _ h => h) (Or.inl ⟨by rfl, ?yc0⟩) (by assumption) ?rc0
  case yc0 => (intro w hSw; (try dsimp only at hSw); go_simp; try with_reducible rfl)
  try simp only [Act.put, List.setIfInBounds_toArray, List.set_cons_zero, List.set_cons_succ]
  refine wpAnyH_take (i := 1) (v := ?vc1) (List.getElem?_toArray.trans rfl) (by kernel_rfl) (by kernel_rfl) (by kernel_rfl) (fun _ _ _ h => h) (Or.inl ⟨by rfl, ?yc1⟩) (by assumption) ?rc1
  case yc1 => (intro w hSw; (try dsimp only at hSw); go_simp; try with_reducible rfl)
  try simp only [Act.put, List.setIfInBounds_toArray, List.set_cons_zero, List.set_cons_succ]
  refine wpAnyH_take (i := 2) (v := ?vc2) (List.getElem?_toArray.trans rfl) (by kernel_rfl) (by kernel_rfl) (by kernel_rfl) (fun _ _ _ h => h) (Or.inl ⟨by rfl, ?yc2⟩) (by assumption) ?rc2
  case yc2 => (intro w hSw; (try dsimp only at hSw); go_simp; try with_reducible rfl)
  try simp only [Act.put, List.setIfInBounds_toArray, List.set_cons_zero, List.set_cons_succ]
  refine wpAnyH_take (i := 3) (v := ?vc3) (List.getElem?_toArray.trans rfl) (by kernel_rfl) (by kernel_rfl) (by kernel_rfl) (fun _ _ _ h => h) (Or.inl ⟨by rfl, ?yc3⟩) (by assumption) ?rc3
  case yc3 => (intro w hSw; (try dsimp only at hSw); go_simp; try with_reducible rfl)
  try simp only [Act.put, List.setIfInBounds_toArray, List.set_cons_zero, List.set_cons_succ]
  refine wpAnyH_take (i := 5) (v := ?vc5) (List.getElem?_toArray.trans rfl) (by kernel_rfl) (by kernel_rfl) (by kernel_rfl) (fun _ _ _ h => h) (Or.inl ⟨by rfl, ?yc5⟩) (by assumption) ?rc5
  case yc5 => (intro w hSw; (try dsimp only at hSw); go_simp; try with_reducible rfl)
  try simp only [Act.put, List.setIfInBounds_toArray, List.set_cons_zero, List.set_cons_succ]
  refine wpAnyH_take (i := 6) (v := ?vc6) (List.getElem?_toArray.trans rfl) (by kernel_rfl) (by kernel_rfl) (by kernel_rfl) (fun _ _ _ h => h) (Or.inl ⟨by rfl, ?yc6⟩) (by assumption) ?rc6
  case yc6 => (intro w hSw; (try dsimp only at hSw); go_simp; try with_reducible rfl)
  try simp only [Act.put, List.setIfInBounds_toArray, List.set_cons_zero, List.set_cons_succ]
  refine wpAnyH_take (i := 8) (v := ?vc8) (List.getElem?_toArray.trans rfl) (by kernel_rfl) (by kernel_rfl) (by kernel_rfl) (fun _ _ _ h => h) (Or.inl ⟨by rfl, ?yc8⟩) (by assumption) ?rc8
  case yc8 => (intro w hSw; (try dsimp only at hSw); go_simp; try with_reducible rfl)
  try simp only [Act.put, List.setIfInBounds_toArray, List.set_cons_zero, List.set_cons_succ]
  refine wpAnyH_take (i := 9) (v := ?vc9) (List.getElem?_toArray.trans rfl) (by kernel_rfl) (by kernel_rfl) (by kernel_rfl) (fun _ _ _ h => h) (Or.inl ⟨by rfl, ?yc9⟩) (by assumption) ?rc9
  case yc9 => (intro w hSw; (try dsimp only at hSw); go_simp; try with_reducible rfl)
  try simp only [Act.put, List.setIfInBounds_toArray, List.set_cons_zero, List.set_cons_succ]
  refine wpAnyH_ready (rs := [4]) (by kernel_rfl) (by simp) ?_
  refine AllReadyH.cons (List.getElem?_toArray.trans rfl) (fun K hK => ?_) AllReadyH.nil
  go_simp
  go_at_call 72
  refine (ints_copy V4 a1 c1 P.f1 ((h1 V4 hB)) hm1).mono ?_
  rintro e u1 ⟨k1, m1, rfl, o1, hb⟩
  have qB := qB.below hb
  have qR := qR.below hb
  have hB := hB.trans (hb.mono hB.size)
  have hs1 := hb.size
  clear hb
  have s9 : u1.cell? ⟨w.heap.size, 0, none⟩ = some (.int .i64 P.f0) ∧ u1.cell? ⟨w.heap.size, 1, none⟩ = some (.slice a1 P.f1.length c1) ∧ u1.cell? ⟨w.heap.size, 2, none⟩ = some (.slice a2 P.f2.length c2) ∧ u1.cell? ⟨w.heap.size, 3, none⟩ = some (.slice a3 P.f3.length c3) := ⟨qB.at rfl, qB.at rfl, qB.at rfl, qB.at rfl⟩
  refine hK.out _ _ s9 (fun hHeld => ?_)
  clear hK K
  try simp only [Act.put, List.setIfInBounds_toArray, List.set_cons_zero, List.set_cons_succ]
  refine wpAnyH_ready (rs := [7]) (by kernel_rfl) (by simp) ?_
  refine AllReadyH.cons (List.getElem?_toArray.trans rfl) (fun K hK => ?_) AllReadyH.nil
  go_simp
  go_at_call 72
  refine (ints_copy u1 a2 c2 P.f2 ((h2 u1 hB)) hm2).mono ?_
  rintro e u2 ⟨k2, m2, rfl, o2, hb⟩
  have o1 := OwnD.under o1 hb (by omega)
  have qB := qB.below hb
  have qR := qR.below hb
  have hB := hB.trans (hb.mono hB.size)
  have hs2 := hb.size
  clear hb
  have s9 : u2.cell? ⟨w.heap.size, 0, none⟩ = some (.int .i64 P.f0) ∧ u2.cell? ⟨w.heap.size, 1, none⟩ = some (.slice a1 P.f1.length c1) ∧ u2.cell? ⟨w.heap.size, 2, none⟩ = some (.slice a2 P.f2.length c2) ∧ u2.cell? ⟨w.heap.size, 3, none⟩ = some (.slice a3 P.f3.length c3) := ⟨qB.at rfl, qB.at rfl, qB.at rfl, qB.at rfl⟩
  refine hK.out _ _ s9 (fun hHeld => ?_)
  clear hK K
  try simp only [Act.put, List.setIfInBounds_toArray, List.set_cons_zero, List.set_cons_succ]
  refine wpAnyH_ready (rs := [10]) (by kernel_rfl) (by simp) ?_
  refine AllReadyH.cons (List.getElem?_toArray.trans rfl) (fun K hK => ?_) AllReadyH.nil
  go_simp
  go_at_call 72
  refine (ints_copy u2 a3 c3 P.f3 ((h3 u2 hB)) hm3).mono ?_
  rintro e u3 ⟨k3, m3, rfl, o3, hb⟩
  have o1 := OwnD.under o1 hb (by omega)
  have o2 := OwnD.under o2 hb (by omega)
  have qB := qB.below hb
  have qR := qR.below hb
  have hB := hB.trans (hb.mono hB.size)
  have hs3 := hb.size
  clear hb
  have s9 : u3.cell? ⟨w.heap.size, 0, none⟩ = some (.int .i64 P.f0) ∧ u3.cell? ⟨w.heap.size, 1, none⟩ = some (.slice a1 P.f1.length c1) ∧ u3.cell? ⟨w.heap.size, 2, none⟩ = some (.slice a2 P.f2.length c2) ∧ u3.cell? ⟨w.heap.size, 3, none⟩ = some (.slice a3 P.f3.length c3) := ⟨qB.at rfl, qB.at rfl, qB.at rfl, qB.at rfl⟩
  refine hK.out _ _ s9 (fun hHeld => ?_)
  clear hK K
  try simp only [Act.put, List.setIfInBounds_toArray, List.set_cons_zero, List.set_cons_succ]
  refine wpAnyH_take (i := 11) (v := ?vc11) (List.getElem?_toArray.trans rfl) (by kernel_rfl) (by kernel_rfl) (by kernel_rfl) (fun _ _ _ h => h) (Or.inl ⟨by rfl, ?yc11⟩) (by assumption) ?rc11
  case yc11 => (intro w hSw; (try dsimp only at hSw); go_simp; try with_reducible rfl)
  try simp only [Act.put, List.setIfInBounds_toArray, List.set_cons_zero, List.set_cons_succ]
  refine wpAnyH_ready (rs := [12]) (by kernel_rfl) (by simp) ?_
  refine AllReadyH.cons (List.getElem?_toArray.trans rfl) (fun K hK => ?_) AllReadyH.nil
  have z0 : u3.cell? ⟨w.heap.size + 1, 0, none⟩ = some (.int .i64 0) := qR.at rfl
  have f0 := qR.free 0
  have z1 : u3.cell? ⟨w.heap.size + 1, 1, none⟩ = some (.slice none 0 0) := qR.at rfl
  have f1 := qR.free 1
  have z2 : u3.cell? ⟨w.heap.size + 1, 2, none⟩ = some (.slice none 0 0) := qR.at rfl
  have f2 := qR.free 2
  have z3 : u3.cell? ⟨w.heap.size + 1, 3, none⟩ = some (.slice none 0 0) := qR.at rfl
  have f3 := qR.free 3
  have o1 : Owns u3 (ints P.f1) (.slice k1 P.f1.length m1) (Span V4.heap.size u1.heap.size) := o1
  have o2 : Owns u3 (ints P.f2) (.slice k2 P.f2.length m2) (Span u1.heap.size u2.heap.size) := o2
  have o3 : Owns u3 (ints P.f3) (.slice k3 P.f3.length m3) (Span u2.heap.size u3.heap.size) := o3
  obtain ⟨V, hV, qF, hsV, hkV, hF, hG⟩ := put_back (w := w) (W := V4) (R := P) (z := P.f0) qR o1 o2 o3 (fun t h => ⟨h.1, by have := h.2; omega⟩) (fun t h => ⟨by have := h.1; omega, by have := h.2; omega⟩) (fun t h => ⟨by have := h.1; omega, h.2⟩)
    (Far.of_owns o1 o2 fun t h h' => by have := h.2; have := h'.1; omega) (Far.of_owns o1 o3 fun t h h' => by have := h.2; have := h'.1; omega) (Far.of_owns o2 o3 fun t h h' => by have := h.2; have := h'.1; omega) (Nat.le_succ _) hzV hB
  go_simp
  try rw [hV]
  have qB := Blk.far qB (hkV _ (by omega))
  have s9 : V.cell? ⟨w.heap.size, 0, none⟩ = some (.int .i64 P.f0) ∧ V.cell? ⟨w.heap.size, 1, none⟩ = some (.slice a1 P.f1.length c1) ∧ V.cell? ⟨w.heap.size, 2, none⟩ = some (.slice a2 P.f2.length c2) ∧ V.cell? ⟨w.heap.size, 3, none⟩ = some (.slice a3 P.f3.length c3) := ⟨qB.at rfl, qB.at rfl, qB.at rfl, qB.at rfl⟩
  clear hV hkV hsV hB o1 o2 o3 qR z0 z1 z2 z3 f0 f1 f2 f3
  refine hK.out _ _ s9 (fun hHeld => ?_)
  clear hK K
  try simp only [Act.put, List.setIfInBounds_toArray, List.set_cons_zero, List.set_cons_succ]
  refine wpAnyH_done (by kernel_rfl) ?_ _
  have g0 := qF.at (x := 0) rfl
  have g1 := qF.at (x := 1) rfl
  have g2 := qF.at (x := 2) rfl
  have g3 := qF.at (x := 3) rfl
  have HG := Lib.hid hG
  clear hG qF qB hF s9
  go_wp2
  refine bodyPost_ret (v := .agg #[.int .i64 P.f0, .slice k1 P.f1.length m1, .slice k2 P.f2.length m2, .slice k3 P.f3.length m3]) (by simp [results, Try.results41, go_sem, g0, g1, g2, g3]) rfl ?_
  exact given_s rfl rfl rfl rfl HG.out

set_option maxRecDepth 100000 in
theorem stepc_gone (s : ByteArray) (b r : Nat) (w0 w : World) (P : TState) (a1 : Option Addr) (c1 : Nat) (a2 : Option Addr) (c2 : Nat) (a3 : Option Addr) (c3 : Nat) {v0 v1 v2 v3 : Value} (qB : Blk 27 b [.int .i64 P.f0, .slice a1 P.f1.length c1, .slice a2 P.f2.length c2, .slice a3 P.f3.length c3] w) (qR : Blk 27 r [v0, v1, v2, v3] w) (hne : b ≠ r) (h : St w P a1 c1 a2 c2 a3 c3) (hm1 : P.f1.length ≤ 1048576) (hm2 : P.f2.length ≤ 1048576) (hm3 : P.f3.length ≤ 1048576)
    (hr : w0.heap.size ≤ r) (hrw : r < w.heap.size) (hB : Below w0.heap.size w0 w) :
    CallsD Try.prog 40 #[.pointer (some ⟨b, 0, none⟩), .pointer (some ⟨r, 0, none⟩)] (.panicking [gone s]) w fun e u' w' => e = .returned (.tuple #[]) ∧ u' = .panicking [{ gone s with recovered := true }] ∧
      ∃ (k1 : Option Addr) (m1 : Nat) (k2 : Option Addr) (m2 : Nat) (k3 : Option Addr) (m3 : Nat), Blk 27 r [.int .i64 P.f0, .slice k1 P.f1.length m1, .slice k2 P.f2.length m2, .slice k3 P.f3.length m3] w' ∧ GivenN w0 P P.f0 P.f1.length P.f2.length P.f3.length (.returned (.agg #[.int .i64 P.f0, .slice k1 P.f1.length m1, .slice k2 P.f2.length m2, .slice k3 P.f3.length m3])) w' := by
  have hK := (copy_state w P a1 c1 a2 c2 a3 c3 h hm1 hm2 hm3).mono fun e w' h => given_n (z := P.f0) (n1 := P.f1.length) (n2 := P.f2.length) (n3 := P.f3.length) rfl rfl rfl rfl h
  have x0 : w.cell? ⟨b, 0, none⟩ = some (.int .i64 P.f0) := qB.at rfl
  have x1 : w.cell? ⟨b, 1, none⟩ = some (.slice a1 P.f1.length c1) := qB.at rfl
  have x2 : w.cell? ⟨b, 2, none⟩ = some (.slice a2 P.f2.length c2) := qB.at rfl
  have x3 : w.cell? ⟨b, 3, none⟩ = some (.slice a3 P.f3.length c3) := qB.at rfl
  refine callsD_of_wpS Try.func40 rfl fun c₀ cs hu => ?_
  apply wpS_seq
  apply wpS_region
  simp [wpOpsS, go_sem, recoverD, hu, Try.ntmps40, Exit.thenS, gone]
  refine wpS_of_wp ?_
  go_wp2_with fail
  go_at_call 41
  refine hK.mono ?_
  rintro e w1 ⟨k1, m1, S1, k2, m2, S2, k3, m3, S3, rfl, o1, o2, o3, u1, u2, u3, f12, f13, f23, hb⟩
  have qR := qR.below hb
  have z0 : w1.cell? ⟨r, 0, none⟩ = some v0 := qR.at rfl
  have f0 := qR.free 0
  have z1 : w1.cell? ⟨r, 1, none⟩ = some v1 := qR.at rfl
  have f1 := qR.free 1
  have z2 : w1.cell? ⟨r, 2, none⟩ = some v2 := qR.at rfl
  have f2 := qR.free 2
  have z3 : w1.cell? ⟨r, 3, none⟩ = some v3 := qR.at rfl
  have f3 := qR.free 3
  obtain ⟨V, hV, qF, hsV, hkV, hF, hG⟩ := put_back (w := w0) (W := w) (R := P) (z := P.f0) qR o1 o2 o3 u1 u2 u3 f12 f13 f23 hr hrw (hB.trans (hb.mono hB.size))
  have HG := Lib.hid hG
  have QF := Lib.hid qF
  clear o1 o2 o3 u1 u2 u3 f12 f13 f23 hG qF hF hkV hsV
  go_wp2
  try rw [hV]
  exact ⟨rfl, _, rfl, _, results_none rfl _ _ _, rfl, rfl, k1, m1, k2, m2, k3, m3, QF.out, HG.out⟩
set_option maxRecDepth 100000 in
theorem stepc_idle (b r : Nat) (w : World) :
    CallsD Try.prog 40 #[.pointer (some ⟨b, 0, none⟩), .pointer (some ⟨r, 0, none⟩)] .returning w fun e u' w' => e = .returned (.tuple #[]) ∧ u' = .returning ∧ w' = w := by
  refine callsD_of_wpS Try.func40 rfl fun c₀ cs hu => ?_
  apply wpS_seq
  apply wpS_region
  simp [wpOpsS, go_sem, recoverD, hu, Try.ntmps40, Exit.thenS]
  refine wpS_of_wp ?_
  go_wp2
  refine ⟨rfl, .returning, ?_, _, results_none rfl _ _ _, rfl, rfl, rfl⟩
  rw [← hu]

set_option maxHeartbeats 1600000 in
set_option maxRecDepth 100000 in
theorem step_bad (w : World) (A : Option Addr) (n c : Nat) (P : TState) (a1 : Option Addr) (c1 : Nat) (a2 : Option Addr) (c2 : Nat) (a3 : Option Addr) (c3 : Nat) (h : St w P a1 c1 a2 c2 a3 c3) (hm1 : P.f1.length ≤ 1048576) (hm2 : P.f2.length ≤ 1048576) (hm3 : P.f3.length ≤ 1048576) (hs : stateB P = false) (v : Int) :
    Calls Try.prog 12 #[.slice A n c, .agg #[.int .i64 P.f0, .slice a1 P.f1.length c1, .slice a2 P.f2.length c2, .slice a3 P.f3.length c3], .int .i64 v] w (GivenS w P) := by
  obtain ⟨W, hWW⟩ : ∃ Z, (w.alloc (.cells #[.int .i64 P.f0, .slice a1 P.f1.length c1, .slice a2 P.f2.length c2, .slice a3 P.f3.length c3] 27)).alloc (.cells #[.int .i64 0, .slice none 0 0, .slice none 0 0, .slice none 0 0] 27) = Z := ⟨_, rfl⟩
  have qB : Blk 27 w.heap.size [.int .i64 P.f0, .slice a1 P.f1.length c1, .slice a2 P.f2.length c2, .slice a3 P.f3.length c3] W := by rw [← hWW]; exact (Blk.new _ [.int .i64 P.f0, .slice a1 P.f1.length c1, .slice a2 P.f2.length c2, .slice a3 P.f3.length c3] w).alloc _
  have qR : Blk 27 (w.heap.size + 1) [.int .i64 0, .slice none 0 0, .slice none 0 0, .slice none 0 0] W := by
    have := Blk.new 27 [.int .i64 0, .slice none 0 0, .slice none 0 0, .slice none 0 0] (w.alloc (.cells #[.int .i64 P.f0, .slice a1 P.f1.length c1, .slice a2 P.f2.length c2, .slice a3 P.f3.length c3] 27))
    rw [gsize_alloc] at this
    rw [← hWW]; exact this
  have hB : Below w.heap.size w W := by rw [← hWW]; exact ((Below.refl _ _).alloc (Nat.le_refl _) _).alloc (by rw [gsize_alloc]; omega) _
  have hz : w.heap.size + 2 ≤ W.heap.size := qR.lt
  have hmf : ∀ (fn : Fn) (first cap : Array Value) (w : World), (Instr.makeFunc fn first cap).run Try.prog w = .ok (.func fn first cap) w := fun _ _ _ _ => rfl
  have hM := machine_no W P a1 c1 a2 c2 a3 c3 (h.below hB) hm1 hm2 hm3 hs
  have x0 : W.cell? ⟨w.heap.size, 0, none⟩ = some (.int .i64 P.f0) := qB.at rfl
  have x1 : W.cell? ⟨w.heap.size, 1, none⟩ = some (.slice a1 P.f1.length c1) := qB.at rfl
  have x2 : W.cell? ⟨w.heap.size, 2, none⟩ = some (.slice a2 P.f2.length c2) := qB.at rfl
  have x3 : W.cell? ⟨w.heap.size, 3, none⟩ = some (.slice a3 P.f3.length c3) := qB.at rfl
  have HW := Lib.hid hWW
  clear hWW
  go_enter_defers Try.func12, Try.ntmps12
  go_upto_region 2 with fail
  try rw [HW.out]
  go_wp2_with fail
  go_at_call 42
  refine hM.mono ?_
  rintro e w1 ⟨s, rfl, hb1⟩
  have qR := qR.below hb1
  have qB := qB.below hb1
  have hB := hB.trans (hb1.mono hB.size)
  have hzV : w.heap.size + 1 < w1.heap.size := qR.lt
  clear x0 x1 x2 x3 hM
  go_wp2
  refine leaves_cons (f := 40) (args := #[.pointer (some ⟨w.heap.size, 0, none⟩), .pointer (some ⟨w.heap.size + 1, 0, none⟩)]) (by simp) (by simp [go_sem]) ?_
  refine (stepc_gone _ w.heap.size (w.heap.size + 1) w _ P a1 c1 a2 c2 a3 c3 qB qR (by omega) (h.below hB) hm1 hm2 hm3 (Nat.le_succ _) hzV hB).mono ?_
  rintro e u w3 ⟨rfl, rfl, k1, m1, k2, m2, k3, m3, qF, hG⟩
  have g0 := qF.at (x := 0) rfl
  have g1 := qF.at (x := 1) rfl
  have g2 := qF.at (x := 2) rfl
  have g3 := qF.at (x := 3) rfl
  exact ⟨.agg #[.int .i64 P.f0, .slice k1 P.f1.length m1, .slice k2 P.f2.length m2, .slice k3 P.f3.length m3], by simp [results, Try.results12, go_sem, g0, g1, g2, g3], given_s rfl rfl rfl rfl hG⟩

set_option maxHeartbeats 4000000 in
set_option maxRecDepth 100000 in
theorem step_none (w : World) (A : Option Addr) (n c : Nat) (p r0 r1 r2 r3 s0 s1 s2 n0 n1 n2 n3 : Int) (a1 : Option Addr) (c1 : Nat) (a2 : Option Addr) (c2 : Nat) (a3 : Option Addr) (c3 : Nat) (h : St w ⟨p, [r0, r1, r2, r3], [s0, s1, s2], [n0, n1, n2, n3]⟩ a1 c1 a2 c2 a3 c3) (hs : stateB ⟨p, [r0, r1, r2, r3], [s0, s1, s2], [n0, n1, n2, n3]⟩ = true) (v : Int)
    (hN : ∀ W : World, Below w.heap.size w W → Calls Try.prog 44 #[.agg #[.int .i64 p, .int .i64 r0, .int .i64 r1, .int .i64 r2, .int .i64 r3, .int .i64 s0, .int .i64 s1, .int .i64 s2, .int .i64 n0, .int .i64 n1, .int .i64 n2, .int .i64 n3], .slice A n c] W fun e w' => ∃ s, e = .panicked [gone s] ∧ Below W.heap.size W w') :
    Calls Try.prog 12 #[.slice A n c, .agg #[.int .i64 p, .slice a1 4 c1, .slice a2 3 c2, .slice a3 4 c3], .int .i64 v] w (GivenS w ⟨p, [r0, r1, r2, r3], [s0, s1, s2], [n0, n1, n2, n3]⟩) := by
  obtain ⟨W, hWW⟩ : ∃ Z, (w.alloc (.cells #[.int .i64 p, .slice a1 4 c1, .slice a2 3 c2, .slice a3 4 c3] 27)).alloc (.cells #[.int .i64 0, .slice none 0 0, .slice none 0 0, .slice none 0 0] 27) = Z := ⟨_, rfl⟩
  have qB : Blk 27 w.heap.size [.int .i64 p, .slice a1 4 c1, .slice a2 3 c2, .slice a3 4 c3] W := by rw [← hWW]; exact (Blk.new _ [.int .i64 p, .slice a1 4 c1, .slice a2 3 c2, .slice a3 4 c3] w).alloc _
  have qR : Blk 27 (w.heap.size + 1) [.int .i64 0, .slice none 0 0, .slice none 0 0, .slice none 0 0] W := by
    have := Blk.new 27 [.int .i64 0, .slice none 0 0, .slice none 0 0, .slice none 0 0] (w.alloc (.cells #[.int .i64 p, .slice a1 4 c1, .slice a2 3 c2, .slice a3 4 c3] 27))
    rw [gsize_alloc] at this
    rw [← hWW]; exact this
  have hB : Below w.heap.size w W := by rw [← hWW]; exact ((Below.refl _ _).alloc (Nat.le_refl _) _).alloc (by rw [gsize_alloc]; omega) _
  have hz : w.heap.size + 2 ≤ W.heap.size := qR.lt
  have hmf : ∀ (fn : Fn) (first cap : Array Value) (w : World), (Instr.makeFunc fn first cap).run Try.prog w = .ok (.func fn first cap) w := fun _ _ _ _ => rfl
  have hM := machine_yes W p r0 r1 r2 r3 s0 s1 s2 n0 n1 n2 n3 a1 c1 a2 c2 a3 c3 (h.below hB) hs
  have x0 : W.cell? ⟨w.heap.size, 0, none⟩ = some (.int .i64 p) := qB.at rfl
  have x1 : W.cell? ⟨w.heap.size, 1, none⟩ = some (.slice a1 4 c1) := qB.at rfl
  have x2 : W.cell? ⟨w.heap.size, 2, none⟩ = some (.slice a2 3 c2) := qB.at rfl
  have x3 : W.cell? ⟨w.heap.size, 3, none⟩ = some (.slice a3 4 c3) := qB.at rfl
  have HW := Lib.hid hWW
  clear hWW
  go_enter_defers Try.func12, Try.ntmps12
  go_upto_region 2 with fail
  try rw [HW.out]
  go_wp2_with fail
  go_at_call 42
  refine hM.mono ?_
  rintro e w1 ⟨rfl, hb1⟩
  have qR := qR.below hb1
  have qB := qB.below hb1
  have hB := hB.trans (hb1.mono hB.size)
  have hz := Nat.le_trans hz hb1.size
  clear x0 x1 x2 x3 hM hb1
  obtain ⟨W2, hW2⟩ : ∃ Z, w1.alloc (.cells #[.int .i64 0, .int .i64 0, .int .i64 0, .int .i64 0, .int .i64 0, .int .i64 0, .int .i64 0, .int .i64 0, .int .i64 0, .int .i64 0, .int .i64 0, .int .i64 0] 67) = Z := ⟨_, rfl⟩
  obtain ⟨b2, hb2⟩ : ∃ b, w1.heap.size = b := ⟨_, rfl⟩
  have qM : Blk 67 b2 [.int .i64 0, .int .i64 0, .int .i64 0, .int .i64 0, .int .i64 0, .int .i64 0, .int .i64 0, .int .i64 0, .int .i64 0, .int .i64 0, .int .i64 0, .int .i64 0] W2 := by rw [← hW2, ← hb2]; exact Blk.new _ [.int .i64 0, .int .i64 0, .int .i64 0, .int .i64 0, .int .i64 0, .int .i64 0, .int .i64 0, .int .i64 0, .int .i64 0, .int .i64 0, .int .i64 0, .int .i64 0] w1
  have hA : Below w1.heap.size w1 W2 := by rw [← hW2]; exact (Below.refl _ _).alloc (Nat.le_refl _) _
  have qR := qR.below hA
  have qB := qB.below hA
  have hB := hB.trans (hA.mono hB.size)
  have hb2w : w.heap.size + 2 ≤ b2 := by omega
  have hb2l := qM.lt
  have z0 : W2.cell? ⟨b2, 0, none⟩ = some (.int .i64 0) := qM.at rfl
  have f0 := qM.free 0
  have z1 : W2.cell? ⟨b2, 1, none⟩ = some (.int .i64 0) := qM.at rfl
  have f1 := qM.free 1
  have z2 : W2.cell? ⟨b2, 2, none⟩ = some (.int .i64 0) := qM.at rfl
  have f2 := qM.free 2
  have z3 : W2.cell? ⟨b2, 3, none⟩ = some (.int .i64 0) := qM.at rfl
  have f3 := qM.free 3
  have z4 : W2.cell? ⟨b2, 4, none⟩ = some (.int .i64 0) := qM.at rfl
  have f4 := qM.free 4
  have z5 : W2.cell? ⟨b2, 5, none⟩ = some (.int .i64 0) := qM.at rfl
  have f5 := qM.free 5
  have z6 : W2.cell? ⟨b2, 6, none⟩ = some (.int .i64 0) := qM.at rfl
  have f6 := qM.free 6
  have z7 : W2.cell? ⟨b2, 7, none⟩ = some (.int .i64 0) := qM.at rfl
  have f7 := qM.free 7
  have z8 : W2.cell? ⟨b2, 8, none⟩ = some (.int .i64 0) := qM.at rfl
  have f8 := qM.free 8
  have z9 : W2.cell? ⟨b2, 9, none⟩ = some (.int .i64 0) := qM.at rfl
  have f9 := qM.free 9
  have z10 : W2.cell? ⟨b2, 10, none⟩ = some (.int .i64 0) := qM.at rfl
  have f10 := qM.free 10
  have z11 : W2.cell? ⟨b2, 11, none⟩ = some (.int .i64 0) := qM.at rfl
  have f11 := qM.free 11
  obtain ⟨VF, hVF, qF, hsF, hkp, hF⟩ := put12 (w := w) (B := w.heap.size) (b := b2) (w1 := W2) (v0 := .int .i64 p) (v1 := .int .i64 r0) (v2 := .int .i64 r1) (v3 := .int .i64 r2) (v4 := .int .i64 r3) (v5 := .int .i64 s0) (v6 := .int .i64 s1) (v7 := .int .i64 s2) (v8 := .int .i64 n0) (v9 := .int .i64 n1) (v10 := .int .i64 n2) (v11 := .int .i64 n3) qM (by omega) hB
  clear hA
  go_upto_region 3 with fail
  try rw [hVF]
  clear hVF hW2 hb2 qM z0 f0 z1 f1 z2 f2 z3 f3 z4 f4 z5 f5 z6 f6 z7 f7 z8 f8 z9 f9 z10 f10 z11 f11
  have qR := Blk.far qR (hkp _ (by omega))
  have qB := Blk.far qB (hkp _ (by omega))
  have hB := hF
  have hz : b2 + 1 ≤ VF.heap.size := by omega
  clear hsF hkp hF
  obtain ⟨V4, hV4⟩ : ∃ V4, VF.drew = V4 := ⟨_, rfl⟩
  have qM := qF.drew
  have qR := qR.drew
  have qB := qB.drew
  have hB := gbelow_drewN hB 1
  rw [hV4] at qM qR qB
  replace hB : Below w.heap.size w V4 := by rw [← hV4]; exact hB
  replace hz : b2 + 1 ≤ V4.heap.size := by rw [← hV4]; exact hz
  have s9 : V4.cell? ⟨b2, 0, none⟩ = some (.int .i64 p) ∧ V4.cell? ⟨b2, 1, none⟩ = some (.int .i64 r0) ∧ V4.cell? ⟨b2, 2, none⟩ = some (.int .i64 r1) ∧ V4.cell? ⟨b2, 3, none⟩ = some (.int .i64 r2) ∧ V4.cell? ⟨b2, 4, none⟩ = some (.int .i64 r3) ∧ V4.cell? ⟨b2, 5, none⟩ = some (.int .i64 s0) ∧ V4.cell? ⟨b2, 6, none⟩ = some (.int .i64 s1) ∧ V4.cell? ⟨b2, 7, none⟩ = some (.int .i64 s2) ∧ V4.cell? ⟨b2, 8, none⟩ = some (.int .i64 n0) ∧ V4.cell? ⟨b2, 9, none⟩ = some (.int .i64 n1) ∧ V4.cell? ⟨b2, 10, none⟩ = some (.int .i64 n2) ∧ V4.cell? ⟨b2, 11, none⟩ = some (.int .i64 n3) := ⟨qM.at rfl, qM.at rfl, qM.at rfl, qM.at rfl, qM.at rfl, qM.at rfl, qM.at rfl, qM.at rfl, qM.at rfl, qM.at rfl, qM.at rfl, qM.at rfl⟩
  obtain ⟨c0, c1, c2, c3, c4, c5, c6, c7, c8, c9, c10, c11⟩ := s9
  refine wp_region_held_drew (S := fun _ => True) (by kernel_rfl) trivial (fun _ => ?_)
  rw [hV4]
  clear hV4
  refine wpAnyH_ready (rs := [0, 1, 2, 4]) (by kernel_rfl) (by simp) ?_
  refine (AllReadyH.cons (List.getElem?_toArray.trans rfl) (fun K hK => ?o1_0) (AllReadyH.cons (List.getElem?_toArray.trans rfl) (fun K hK => ?o1_1) (AllReadyH.cons (List.getElem?_toArray.trans rfl) (fun K hK => ?o1_2) (AllReadyH.cons (List.getElem?_toArray.trans rfl) (fun K hK => ?o1_4) AllReadyH.nil))))
  case o1_0 =>
    go_simp
    refine hK.out _ _ trivial (fun _ => ?_)
    clear hK K
    try simp only [Act.put, List.setIfInBounds_toArray, List.set_cons_zero, List.set_cons_succ]
    refine wpAnyH_ready (rs := [1, 2, 4]) (by kernel_rfl) (by simp) ?_
    refine (AllReadyH.cons (List.getElem?_toArray.trans rfl) (fun K hK => ?o2_1) (AllReadyH.cons (List.getElem?_toArray.trans rfl) (fun K hK => ?o2_2) (AllReadyH.cons (List.getElem?_toArray.trans rfl) (fun K hK => ?o2_4) AllReadyH.nil)))
    case o2_1 =>
      go_simp
      refine hK.out _ _ trivial (fun _ => ?_)
      clear hK K
      try simp only [Act.put, List.setIfInBounds_toArray, List.set_cons_zero, List.set_cons_succ]
      refine wpAnyH_ready (rs := [2, 4]) (by kernel_rfl) (by simp) ?_
      refine (AllReadyH.cons (List.getElem?_toArray.trans rfl) (fun K hK => ?o3_2) (AllReadyH.cons (List.getElem?_toArray.trans rfl) (fun K hK => ?o3_4) AllReadyH.nil))
      case o3_2 =>
        go_simp
        refine hK.out _ _ trivial (fun _ => ?_)
        clear hK K
        try simp only [Act.put, List.setIfInBounds_toArray, List.set_cons_zero, List.set_cons_succ]
        refine wpAnyH_ready (rs := [3, 4]) (by kernel_rfl) (by simp) ?_
        refine (AllReadyH.cons (List.getElem?_toArray.trans rfl) (fun K hK => ?o4_3) (AllReadyH.cons (List.getElem?_toArray.trans rfl) (fun K hK => ?o4_4) AllReadyH.nil))
        case o4_3 =>
          go_simp
          go_at_call 44
          refine (hN V4 hB).mono ?_
          rintro e w2 ⟨s, rfl, hb⟩
          have qR := qR.below hb
          have qB := qB.below hb
          have hB := hB.trans (hb.mono hB.size)
          have hzV : w.heap.size + 1 < w2.heap.size := qR.lt
          clear c0 c1 c2 c3 c4 c5 c6 c7 c8 c9 c10 c11
          go_wp2
          refine leaves_cons (f := 40) (args := #[.pointer (some ⟨w.heap.size, 0, none⟩), .pointer (some ⟨w.heap.size + 1, 0, none⟩)]) (by simp) (by simp [go_sem]) ?_
          refine (stepc_gone _ w.heap.size (w.heap.size + 1) w _ ⟨p, [r0, r1, r2, r3], [s0, s1, s2], [n0, n1, n2, n3]⟩ a1 c1 a2 c2 a3 c3 qB qR (by omega) (h.below hB) (by simp) (by simp) (by simp) (Nat.le_succ _) hzV hB).mono ?_
          rintro e u w3 ⟨rfl, rfl, k1, m1, k2, m2, k3, m3, qF, hG⟩
          have g0 := qF.at (x := 0) rfl
          have g1 := qF.at (x := 1) rfl
          have g2 := qF.at (x := 2) rfl
          have g3 := qF.at (x := 3) rfl
          exact ⟨.agg #[.int .i64 p, .slice k1 4 m1, .slice k2 3 m2, .slice k3 4 m3], by simp [results, Try.results12, go_sem, g0, g1, g2, g3], given_s rfl rfl rfl rfl hG⟩
        case o4_4 =>
          go_simp
          refine hK.out _ _ trivial (fun _ => ?_)
          clear hK K
          try simp only [Act.put, List.setIfInBounds_toArray, List.set_cons_zero, List.set_cons_succ]
          refine wpAnyH_ready (rs := [3]) (by kernel_rfl) (by simp) ?_
          refine (AllReadyH.cons (List.getElem?_toArray.trans rfl) (fun K hK => ?o5_3) AllReadyH.nil)
          case o5_3 =>
            go_simp
            go_at_call 44
            refine (hN V4 hB).mono ?_
            rintro e w2 ⟨s, rfl, hb⟩
            have qR := qR.below hb
            have qB := qB.below hb
            have hB := hB.trans (hb.mono hB.size)
            have hzV : w.heap.size + 1 < w2.heap.size := qR.lt
            clear c0 c1 c2 c3 c4 c5 c6 c7 c8 c9 c10 c11
            go_wp2
            refine leaves_cons (f := 40) (args := #[.pointer (some ⟨w.heap.size, 0, none⟩), .pointer (some ⟨w.heap.size + 1, 0, none⟩)]) (by simp) (by simp [go_sem]) ?_
            refine (stepc_gone _ w.heap.size (w.heap.size + 1) w _ ⟨p, [r0, r1, r2, r3], [s0, s1, s2], [n0, n1, n2, n3]⟩ a1 c1 a2 c2 a3 c3 qB qR (by omega) (h.below hB) (by simp) (by simp) (by simp) (Nat.le_succ _) hzV hB).mono ?_
            rintro e u w3 ⟨rfl, rfl, k1, m1, k2, m2, k3, m3, qF, hG⟩
            have g0 := qF.at (x := 0) rfl
            have g1 := qF.at (x := 1) rfl
            have g2 := qF.at (x := 2) rfl
            have g3 := qF.at (x := 3) rfl
            exact ⟨.agg #[.int .i64 p, .slice k1 4 m1, .slice k2 3 m2, .slice k3 4 m3], by simp [results, Try.results12, go_sem, g0, g1, g2, g3], given_s rfl rfl rfl rfl hG⟩
      case o3_4 =>
        go_simp
        refine hK.out _ _ trivial (fun _ => ?_)
        clear hK K
        try simp only [Act.put, List.setIfInBounds_toArray, List.set_cons_zero, List.set_cons_succ]
        refine wpAnyH_ready (rs := [2]) (by kernel_rfl) (by simp) ?_
        refine (AllReadyH.cons (List.getElem?_toArray.trans rfl) (fun K hK => ?o6_2) AllReadyH.nil)
        case o6_2 =>
          go_simp
          refine hK.out _ _ trivial (fun _ => ?_)
          clear hK K
          try simp only [Act.put, List.setIfInBounds_toArray, List.set_cons_zero, List.set_cons_succ]
          refine wpAnyH_ready (rs := [3]) (by kernel_rfl) (by simp) ?_
          refine (AllReadyH.cons (List.getElem?_toArray.trans rfl) (fun K hK => ?o7_3) AllReadyH.nil)
          case o7_3 =>
            go_simp
            go_at_call 44
            refine (hN V4 hB).mono ?_
            rintro e w2 ⟨s, rfl, hb⟩
            have qR := qR.below hb
            have qB := qB.below hb
            have hB := hB.trans (hb.mono hB.size)
            have hzV : w.heap.size + 1 < w2.heap.size := qR.lt
            clear c0 c1 c2 c3 c4 c5 c6 c7 c8 c9 c10 c11
            go_wp2
            refine leaves_cons (f := 40) (args := #[.pointer (some ⟨w.heap.size, 0, none⟩), .pointer (some ⟨w.heap.size + 1, 0, none⟩)]) (by simp) (by simp [go_sem]) ?_
            refine (stepc_gone _ w.heap.size (w.heap.size + 1) w _ ⟨p, [r0, r1, r2, r3], [s0, s1, s2], [n0, n1, n2, n3]⟩ a1 c1 a2 c2 a3 c3 qB qR (by omega) (h.below hB) (by simp) (by simp) (by simp) (Nat.le_succ _) hzV hB).mono ?_
            rintro e u w3 ⟨rfl, rfl, k1, m1, k2, m2, k3, m3, qF, hG⟩
            have g0 := qF.at (x := 0) rfl
            have g1 := qF.at (x := 1) rfl
            have g2 := qF.at (x := 2) rfl
            have g3 := qF.at (x := 3) rfl
            exact ⟨.agg #[.int .i64 p, .slice k1 4 m1, .slice k2 3 m2, .slice k3 4 m3], by simp [results, Try.results12, go_sem, g0, g1, g2, g3], given_s rfl rfl rfl rfl hG⟩
    case o2_2 =>
      go_simp
      refine hK.out _ _ trivial (fun _ => ?_)
      clear hK K
      try simp only [Act.put, List.setIfInBounds_toArray, List.set_cons_zero, List.set_cons_succ]
      refine wpAnyH_ready (rs := [1, 4]) (by kernel_rfl) (by simp) ?_
      refine (AllReadyH.cons (List.getElem?_toArray.trans rfl) (fun K hK => ?o8_1) (AllReadyH.cons (List.getElem?_toArray.trans rfl) (fun K hK => ?o8_4) AllReadyH.nil))
      case o8_1 =>
        go_simp
        refine hK.out _ _ trivial (fun _ => ?_)
        clear hK K
        try simp only [Act.put, List.setIfInBounds_toArray, List.set_cons_zero, List.set_cons_succ]
        refine wpAnyH_ready (rs := [3, 4]) (by kernel_rfl) (by simp) ?_
        refine (AllReadyH.cons (List.getElem?_toArray.trans rfl) (fun K hK => ?o9_3) (AllReadyH.cons (List.getElem?_toArray.trans rfl) (fun K hK => ?o9_4) AllReadyH.nil))
        case o9_3 =>
          go_simp
          go_at_call 44
          refine (hN V4 hB).mono ?_
          rintro e w2 ⟨s, rfl, hb⟩
          have qR := qR.below hb
          have qB := qB.below hb
          have hB := hB.trans (hb.mono hB.size)
          have hzV : w.heap.size + 1 < w2.heap.size := qR.lt
          clear c0 c1 c2 c3 c4 c5 c6 c7 c8 c9 c10 c11
          go_wp2
          refine leaves_cons (f := 40) (args := #[.pointer (some ⟨w.heap.size, 0, none⟩), .pointer (some ⟨w.heap.size + 1, 0, none⟩)]) (by simp) (by simp [go_sem]) ?_
          refine (stepc_gone _ w.heap.size (w.heap.size + 1) w _ ⟨p, [r0, r1, r2, r3], [s0, s1, s2], [n0, n1, n2, n3]⟩ a1 c1 a2 c2 a3 c3 qB qR (by omega) (h.below hB) (by simp) (by simp) (by simp) (Nat.le_succ _) hzV hB).mono ?_
          rintro e u w3 ⟨rfl, rfl, k1, m1, k2, m2, k3, m3, qF, hG⟩
          have g0 := qF.at (x := 0) rfl
          have g1 := qF.at (x := 1) rfl
          have g2 := qF.at (x := 2) rfl
          have g3 := qF.at (x := 3) rfl
          exact ⟨.agg #[.int .i64 p, .slice k1 4 m1, .slice k2 3 m2, .slice k3 4 m3], by simp [results, Try.results12, go_sem, g0, g1, g2, g3], given_s rfl rfl rfl rfl hG⟩
        case o9_4 =>
          go_simp
          refine hK.out _ _ trivial (fun _ => ?_)
          clear hK K
          try simp only [Act.put, List.setIfInBounds_toArray, List.set_cons_zero, List.set_cons_succ]
          refine wpAnyH_ready (rs := [3]) (by kernel_rfl) (by simp) ?_
          refine (AllReadyH.cons (List.getElem?_toArray.trans rfl) (fun K hK => ?o10_3) AllReadyH.nil)
          case o10_3 =>
            go_simp
            go_at_call 44
            refine (hN V4 hB).mono ?_
            rintro e w2 ⟨s, rfl, hb⟩
            have qR := qR.below hb
            have qB := qB.below hb
            have hB := hB.trans (hb.mono hB.size)
            have hzV : w.heap.size + 1 < w2.heap.size := qR.lt
            clear c0 c1 c2 c3 c4 c5 c6 c7 c8 c9 c10 c11
            go_wp2
            refine leaves_cons (f := 40) (args := #[.pointer (some ⟨w.heap.size, 0, none⟩), .pointer (some ⟨w.heap.size + 1, 0, none⟩)]) (by simp) (by simp [go_sem]) ?_
            refine (stepc_gone _ w.heap.size (w.heap.size + 1) w _ ⟨p, [r0, r1, r2, r3], [s0, s1, s2], [n0, n1, n2, n3]⟩ a1 c1 a2 c2 a3 c3 qB qR (by omega) (h.below hB) (by simp) (by simp) (by simp) (Nat.le_succ _) hzV hB).mono ?_
            rintro e u w3 ⟨rfl, rfl, k1, m1, k2, m2, k3, m3, qF, hG⟩
            have g0 := qF.at (x := 0) rfl
            have g1 := qF.at (x := 1) rfl
            have g2 := qF.at (x := 2) rfl
            have g3 := qF.at (x := 3) rfl
            exact ⟨.agg #[.int .i64 p, .slice k1 4 m1, .slice k2 3 m2, .slice k3 4 m3], by simp [results, Try.results12, go_sem, g0, g1, g2, g3], given_s rfl rfl rfl rfl hG⟩
      case o8_4 =>
        go_simp
        refine hK.out _ _ trivial (fun _ => ?_)
        clear hK K
        try simp only [Act.put, List.setIfInBounds_toArray, List.set_cons_zero, List.set_cons_succ]
        refine wpAnyH_ready (rs := [1]) (by kernel_rfl) (by simp) ?_
        refine (AllReadyH.cons (List.getElem?_toArray.trans rfl) (fun K hK => ?o11_1) AllReadyH.nil)
        case o11_1 =>
          go_simp
          refine hK.out _ _ trivial (fun _ => ?_)
          clear hK K
          try simp only [Act.put, List.setIfInBounds_toArray, List.set_cons_zero, List.set_cons_succ]
          refine wpAnyH_ready (rs := [3]) (by kernel_rfl) (by simp) ?_
          refine (AllReadyH.cons (List.getElem?_toArray.trans rfl) (fun K hK => ?o12_3) AllReadyH.nil)
          case o12_3 =>
            go_simp
            go_at_call 44
            refine (hN V4 hB).mono ?_
            rintro e w2 ⟨s, rfl, hb⟩
            have qR := qR.below hb
            have qB := qB.below hb
            have hB := hB.trans (hb.mono hB.size)
            have hzV : w.heap.size + 1 < w2.heap.size := qR.lt
            clear c0 c1 c2 c3 c4 c5 c6 c7 c8 c9 c10 c11
            go_wp2
            refine leaves_cons (f := 40) (args := #[.pointer (some ⟨w.heap.size, 0, none⟩), .pointer (some ⟨w.heap.size + 1, 0, none⟩)]) (by simp) (by simp [go_sem]) ?_
            refine (stepc_gone _ w.heap.size (w.heap.size + 1) w _ ⟨p, [r0, r1, r2, r3], [s0, s1, s2], [n0, n1, n2, n3]⟩ a1 c1 a2 c2 a3 c3 qB qR (by omega) (h.below hB) (by simp) (by simp) (by simp) (Nat.le_succ _) hzV hB).mono ?_
            rintro e u w3 ⟨rfl, rfl, k1, m1, k2, m2, k3, m3, qF, hG⟩
            have g0 := qF.at (x := 0) rfl
            have g1 := qF.at (x := 1) rfl
            have g2 := qF.at (x := 2) rfl
            have g3 := qF.at (x := 3) rfl
            exact ⟨.agg #[.int .i64 p, .slice k1 4 m1, .slice k2 3 m2, .slice k3 4 m3], by simp [results, Try.results12, go_sem, g0, g1, g2, g3], given_s rfl rfl rfl rfl hG⟩
    case o2_4 =>
      go_simp
      refine hK.out _ _ trivial (fun _ => ?_)
      clear hK K
      try simp only [Act.put, List.setIfInBounds_toArray, List.set_cons_zero, List.set_cons_succ]
      refine wpAnyH_ready (rs := [1, 2]) (by kernel_rfl) (by simp) ?_
      refine (AllReadyH.cons (List.getElem?_toArray.trans rfl) (fun K hK => ?o13_1) (AllReadyH.cons (List.getElem?_toArray.trans rfl) (fun K hK => ?o13_2) AllReadyH.nil))
      case o13_1 =>
        go_simp
        refine hK.out _ _ trivial (fun _ => ?_)
        clear hK K
        try simp only [Act.put, List.setIfInBounds_toArray, List.set_cons_zero, List.set_cons_succ]
        refine wpAnyH_ready (rs := [2]) (by kernel_rfl) (by simp) ?_
        refine (AllReadyH.cons (List.getElem?_toArray.trans rfl) (fun K hK => ?o14_2) AllReadyH.nil)
        case o14_2 =>
          go_simp
          refine hK.out _ _ trivial (fun _ => ?_)
          clear hK K
          try simp only [Act.put, List.setIfInBounds_toArray, List.set_cons_zero, List.set_cons_succ]
          refine wpAnyH_ready (rs := [3]) (by kernel_rfl) (by simp) ?_
          refine (AllReadyH.cons (List.getElem?_toArray.trans rfl) (fun K hK => ?o15_3) AllReadyH.nil)
          case o15_3 =>
            go_simp
            go_at_call 44
            refine (hN V4 hB).mono ?_
            rintro e w2 ⟨s, rfl, hb⟩
            have qR := qR.below hb
            have qB := qB.below hb
            have hB := hB.trans (hb.mono hB.size)
            have hzV : w.heap.size + 1 < w2.heap.size := qR.lt
            clear c0 c1 c2 c3 c4 c5 c6 c7 c8 c9 c10 c11
            go_wp2
            refine leaves_cons (f := 40) (args := #[.pointer (some ⟨w.heap.size, 0, none⟩), .pointer (some ⟨w.heap.size + 1, 0, none⟩)]) (by simp) (by simp [go_sem]) ?_
            refine (stepc_gone _ w.heap.size (w.heap.size + 1) w _ ⟨p, [r0, r1, r2, r3], [s0, s1, s2], [n0, n1, n2, n3]⟩ a1 c1 a2 c2 a3 c3 qB qR (by omega) (h.below hB) (by simp) (by simp) (by simp) (Nat.le_succ _) hzV hB).mono ?_
            rintro e u w3 ⟨rfl, rfl, k1, m1, k2, m2, k3, m3, qF, hG⟩
            have g0 := qF.at (x := 0) rfl
            have g1 := qF.at (x := 1) rfl
            have g2 := qF.at (x := 2) rfl
            have g3 := qF.at (x := 3) rfl
            exact ⟨.agg #[.int .i64 p, .slice k1 4 m1, .slice k2 3 m2, .slice k3 4 m3], by simp [results, Try.results12, go_sem, g0, g1, g2, g3], given_s rfl rfl rfl rfl hG⟩
      case o13_2 =>
        go_simp
        refine hK.out _ _ trivial (fun _ => ?_)
        clear hK K
        try simp only [Act.put, List.setIfInBounds_toArray, List.set_cons_zero, List.set_cons_succ]
        refine wpAnyH_ready (rs := [1]) (by kernel_rfl) (by simp) ?_
        refine (AllReadyH.cons (List.getElem?_toArray.trans rfl) (fun K hK => ?o16_1) AllReadyH.nil)
        case o16_1 =>
          go_simp
          refine hK.out _ _ trivial (fun _ => ?_)
          clear hK K
          try simp only [Act.put, List.setIfInBounds_toArray, List.set_cons_zero, List.set_cons_succ]
          refine wpAnyH_ready (rs := [3]) (by kernel_rfl) (by simp) ?_
          refine (AllReadyH.cons (List.getElem?_toArray.trans rfl) (fun K hK => ?o17_3) AllReadyH.nil)
          case o17_3 =>
            go_simp
            go_at_call 44
            refine (hN V4 hB).mono ?_
            rintro e w2 ⟨s, rfl, hb⟩
            have qR := qR.below hb
            have qB := qB.below hb
            have hB := hB.trans (hb.mono hB.size)
            have hzV : w.heap.size + 1 < w2.heap.size := qR.lt
            clear c0 c1 c2 c3 c4 c5 c6 c7 c8 c9 c10 c11
            go_wp2
            refine leaves_cons (f := 40) (args := #[.pointer (some ⟨w.heap.size, 0, none⟩), .pointer (some ⟨w.heap.size + 1, 0, none⟩)]) (by simp) (by simp [go_sem]) ?_
            refine (stepc_gone _ w.heap.size (w.heap.size + 1) w _ ⟨p, [r0, r1, r2, r3], [s0, s1, s2], [n0, n1, n2, n3]⟩ a1 c1 a2 c2 a3 c3 qB qR (by omega) (h.below hB) (by simp) (by simp) (by simp) (Nat.le_succ _) hzV hB).mono ?_
            rintro e u w3 ⟨rfl, rfl, k1, m1, k2, m2, k3, m3, qF, hG⟩
            have g0 := qF.at (x := 0) rfl
            have g1 := qF.at (x := 1) rfl
            have g2 := qF.at (x := 2) rfl
            have g3 := qF.at (x := 3) rfl
            exact ⟨.agg #[.int .i64 p, .slice k1 4 m1, .slice k2 3 m2, .slice k3 4 m3], by simp [results, Try.results12, go_sem, g0, g1, g2, g3], given_s rfl rfl rfl rfl hG⟩
  case o1_1 =>
    go_simp
    refine hK.out _ _ trivial (fun _ => ?_)
    clear hK K
    try simp only [Act.put, List.setIfInBounds_toArray, List.set_cons_zero, List.set_cons_succ]
    refine wpAnyH_ready (rs := [0, 2, 4]) (by kernel_rfl) (by simp) ?_
    refine (AllReadyH.cons (List.getElem?_toArray.trans rfl) (fun K hK => ?o18_0) (AllReadyH.cons (List.getElem?_toArray.trans rfl) (fun K hK => ?o18_2) (AllReadyH.cons (List.getElem?_toArray.trans rfl) (fun K hK => ?o18_4) AllReadyH.nil)))
    case o18_0 =>
      go_simp
      refine hK.out _ _ trivial (fun _ => ?_)
      clear hK K
      try simp only [Act.put, List.setIfInBounds_toArray, List.set_cons_zero, List.set_cons_succ]
      refine wpAnyH_ready (rs := [2, 4]) (by kernel_rfl) (by simp) ?_
      refine (AllReadyH.cons (List.getElem?_toArray.trans rfl) (fun K hK => ?o19_2) (AllReadyH.cons (List.getElem?_toArray.trans rfl) (fun K hK => ?o19_4) AllReadyH.nil))
      case o19_2 =>
        go_simp
        refine hK.out _ _ trivial (fun _ => ?_)
        clear hK K
        try simp only [Act.put, List.setIfInBounds_toArray, List.set_cons_zero, List.set_cons_succ]
        refine wpAnyH_ready (rs := [3, 4]) (by kernel_rfl) (by simp) ?_
        refine (AllReadyH.cons (List.getElem?_toArray.trans rfl) (fun K hK => ?o20_3) (AllReadyH.cons (List.getElem?_toArray.trans rfl) (fun K hK => ?o20_4) AllReadyH.nil))
        case o20_3 =>
          go_simp
          go_at_call 44
          refine (hN V4 hB).mono ?_
          rintro e w2 ⟨s, rfl, hb⟩
          have qR := qR.below hb
          have qB := qB.below hb
          have hB := hB.trans (hb.mono hB.size)
          have hzV : w.heap.size + 1 < w2.heap.size := qR.lt
          clear c0 c1 c2 c3 c4 c5 c6 c7 c8 c9 c10 c11
          go_wp2
          refine leaves_cons (f := 40) (args := #[.pointer (some ⟨w.heap.size, 0, none⟩), .pointer (some ⟨w.heap.size + 1, 0, none⟩)]) (by simp) (by simp [go_sem]) ?_
          refine (stepc_gone _ w.heap.size (w.heap.size + 1) w _ ⟨p, [r0, r1, r2, r3], [s0, s1, s2], [n0, n1, n2, n3]⟩ a1 c1 a2 c2 a3 c3 qB qR (by omega) (h.below hB) (by simp) (by simp) (by simp) (Nat.le_succ _) hzV hB).mono ?_
          rintro e u w3 ⟨rfl, rfl, k1, m1, k2, m2, k3, m3, qF, hG⟩
          have g0 := qF.at (x := 0) rfl
          have g1 := qF.at (x := 1) rfl
          have g2 := qF.at (x := 2) rfl
          have g3 := qF.at (x := 3) rfl
          exact ⟨.agg #[.int .i64 p, .slice k1 4 m1, .slice k2 3 m2, .slice k3 4 m3], by simp [results, Try.results12, go_sem, g0, g1, g2, g3], given_s rfl rfl rfl rfl hG⟩
        case o20_4 =>
          go_simp
          refine hK.out _ _ trivial (fun _ => ?_)
          clear hK K
          try simp only [Act.put, List.setIfInBounds_toArray, List.set_cons_zero, List.set_cons_succ]
          refine wpAnyH_ready (rs := [3]) (by kernel_rfl) (by simp) ?_
          refine (AllReadyH.cons (List.getElem?_toArray.trans rfl) (fun K hK => ?o21_3) AllReadyH.nil)
          case o21_3 =>
            go_simp
            go_at_call 44
            refine (hN V4 hB).mono ?_
            rintro e w2 ⟨s, rfl, hb⟩
            have qR := qR.below hb
            have qB := qB.below hb
            have hB := hB.trans (hb.mono hB.size)
            have hzV : w.heap.size + 1 < w2.heap.size := qR.lt
            clear c0 c1 c2 c3 c4 c5 c6 c7 c8 c9 c10 c11
            go_wp2
            refine leaves_cons (f := 40) (args := #[.pointer (some ⟨w.heap.size, 0, none⟩), .pointer (some ⟨w.heap.size + 1, 0, none⟩)]) (by simp) (by simp [go_sem]) ?_
            refine (stepc_gone _ w.heap.size (w.heap.size + 1) w _ ⟨p, [r0, r1, r2, r3], [s0, s1, s2], [n0, n1, n2, n3]⟩ a1 c1 a2 c2 a3 c3 qB qR (by omega) (h.below hB) (by simp) (by simp) (by simp) (Nat.le_succ _) hzV hB).mono ?_
            rintro e u w3 ⟨rfl, rfl, k1, m1, k2, m2, k3, m3, qF, hG⟩
            have g0 := qF.at (x := 0) rfl
            have g1 := qF.at (x := 1) rfl
            have g2 := qF.at (x := 2) rfl
            have g3 := qF.at (x := 3) rfl
            exact ⟨.agg #[.int .i64 p, .slice k1 4 m1, .slice k2 3 m2, .slice k3 4 m3], by simp [results, Try.results12, go_sem, g0, g1, g2, g3], given_s rfl rfl rfl rfl hG⟩
      case o19_4 =>
        go_simp
        refine hK.out _ _ trivial (fun _ => ?_)
        clear hK K
        try simp only [Act.put, List.setIfInBounds_toArray, List.set_cons_zero, List.set_cons_succ]
        refine wpAnyH_ready (rs := [2]) (by kernel_rfl) (by simp) ?_
        refine (AllReadyH.cons (List.getElem?_toArray.trans rfl) (fun K hK => ?o22_2) AllReadyH.nil)
        case o22_2 =>
          go_simp
          refine hK.out _ _ trivial (fun _ => ?_)
          clear hK K
          try simp only [Act.put, List.setIfInBounds_toArray, List.set_cons_zero, List.set_cons_succ]
          refine wpAnyH_ready (rs := [3]) (by kernel_rfl) (by simp) ?_
          refine (AllReadyH.cons (List.getElem?_toArray.trans rfl) (fun K hK => ?o23_3) AllReadyH.nil)
          case o23_3 =>
            go_simp
            go_at_call 44
            refine (hN V4 hB).mono ?_
            rintro e w2 ⟨s, rfl, hb⟩
            have qR := qR.below hb
            have qB := qB.below hb
            have hB := hB.trans (hb.mono hB.size)
            have hzV : w.heap.size + 1 < w2.heap.size := qR.lt
            clear c0 c1 c2 c3 c4 c5 c6 c7 c8 c9 c10 c11
            go_wp2
            refine leaves_cons (f := 40) (args := #[.pointer (some ⟨w.heap.size, 0, none⟩), .pointer (some ⟨w.heap.size + 1, 0, none⟩)]) (by simp) (by simp [go_sem]) ?_
            refine (stepc_gone _ w.heap.size (w.heap.size + 1) w _ ⟨p, [r0, r1, r2, r3], [s0, s1, s2], [n0, n1, n2, n3]⟩ a1 c1 a2 c2 a3 c3 qB qR (by omega) (h.below hB) (by simp) (by simp) (by simp) (Nat.le_succ _) hzV hB).mono ?_
            rintro e u w3 ⟨rfl, rfl, k1, m1, k2, m2, k3, m3, qF, hG⟩
            have g0 := qF.at (x := 0) rfl
            have g1 := qF.at (x := 1) rfl
            have g2 := qF.at (x := 2) rfl
            have g3 := qF.at (x := 3) rfl
            exact ⟨.agg #[.int .i64 p, .slice k1 4 m1, .slice k2 3 m2, .slice k3 4 m3], by simp [results, Try.results12, go_sem, g0, g1, g2, g3], given_s rfl rfl rfl rfl hG⟩
    case o18_2 =>
      go_simp
      refine hK.out _ _ trivial (fun _ => ?_)
      clear hK K
      try simp only [Act.put, List.setIfInBounds_toArray, List.set_cons_zero, List.set_cons_succ]
      refine wpAnyH_ready (rs := [0, 3, 4]) (by kernel_rfl) (by simp) ?_
      refine (AllReadyH.cons (List.getElem?_toArray.trans rfl) (fun K hK => ?o24_0) (AllReadyH.cons (List.getElem?_toArray.trans rfl) (fun K hK => ?o24_3) (AllReadyH.cons (List.getElem?_toArray.trans rfl) (fun K hK => ?o24_4) AllReadyH.nil)))
      case o24_0 =>
        go_simp
        refine hK.out _ _ trivial (fun _ => ?_)
        clear hK K
        try simp only [Act.put, List.setIfInBounds_toArray, List.set_cons_zero, List.set_cons_succ]
        refine wpAnyH_ready (rs := [3, 4]) (by kernel_rfl) (by simp) ?_
        refine (AllReadyH.cons (List.getElem?_toArray.trans rfl) (fun K hK => ?o25_3) (AllReadyH.cons (List.getElem?_toArray.trans rfl) (fun K hK => ?o25_4) AllReadyH.nil))
        case o25_3 =>
          go_simp
          go_at_call 44
          refine (hN V4 hB).mono ?_
          rintro e w2 ⟨s, rfl, hb⟩
          have qR := qR.below hb
          have qB := qB.below hb
          have hB := hB.trans (hb.mono hB.size)
          have hzV : w.heap.size + 1 < w2.heap.size := qR.lt
          clear c0 c1 c2 c3 c4 c5 c6 c7 c8 c9 c10 c11
          go_wp2
          refine leaves_cons (f := 40) (args := #[.pointer (some ⟨w.heap.size, 0, none⟩), .pointer (some ⟨w.heap.size + 1, 0, none⟩)]) (by simp) (by simp [go_sem]) ?_
          refine (stepc_gone _ w.heap.size (w.heap.size + 1) w _ ⟨p, [r0, r1, r2, r3], [s0, s1, s2], [n0, n1, n2, n3]⟩ a1 c1 a2 c2 a3 c3 qB qR (by omega) (h.below hB) (by simp) (by simp) (by simp) (Nat.le_succ _) hzV hB).mono ?_
          rintro e u w3 ⟨rfl, rfl, k1, m1, k2, m2, k3, m3, qF, hG⟩
          have g0 := qF.at (x := 0) rfl
          have g1 := qF.at (x := 1) rfl
          have g2 := qF.at (x := 2) rfl
          have g3 := qF.at (x := 3) rfl
          exact ⟨.agg #[.int .i64 p, .slice k1 4 m1, .slice k2 3 m2, .slice k3 4 m3], by simp [results, Try.results12, go_sem, g0, g1, g2, g3], given_s rfl rfl rfl rfl hG⟩
        case o25_4 =>
          go_simp
          refine hK.out _ _ trivial (fun _ => ?_)
          clear hK K
          try simp only [Act.put, List.setIfInBounds_toArray, List.set_cons_zero, List.set_cons_succ]
          refine wpAnyH_ready (rs := [3]) (by kernel_rfl) (by simp) ?_
          refine (AllReadyH.cons (List.getElem?_toArray.trans rfl) (fun K hK => ?o26_3) AllReadyH.nil)
          case o26_3 =>
            go_simp
            go_at_call 44
            refine (hN V4 hB).mono ?_
            rintro e w2 ⟨s, rfl, hb⟩
            have qR := qR.below hb
            have qB := qB.below hb
            have hB := hB.trans (hb.mono hB.size)
            have hzV : w.heap.size + 1 < w2.heap.size := qR.lt
            clear c0 c1 c2 c3 c4 c5 c6 c7 c8 c9 c10 c11
            go_wp2
            refine leaves_cons (f := 40) (args := #[.pointer (some ⟨w.heap.size, 0, none⟩), .pointer (some ⟨w.heap.size + 1, 0, none⟩)]) (by simp) (by simp [go_sem]) ?_
            refine (stepc_gone _ w.heap.size (w.heap.size + 1) w _ ⟨p, [r0, r1, r2, r3], [s0, s1, s2], [n0, n1, n2, n3]⟩ a1 c1 a2 c2 a3 c3 qB qR (by omega) (h.below hB) (by simp) (by simp) (by simp) (Nat.le_succ _) hzV hB).mono ?_
            rintro e u w3 ⟨rfl, rfl, k1, m1, k2, m2, k3, m3, qF, hG⟩
            have g0 := qF.at (x := 0) rfl
            have g1 := qF.at (x := 1) rfl
            have g2 := qF.at (x := 2) rfl
            have g3 := qF.at (x := 3) rfl
            exact ⟨.agg #[.int .i64 p, .slice k1 4 m1, .slice k2 3 m2, .slice k3 4 m3], by simp [results, Try.results12, go_sem, g0, g1, g2, g3], given_s rfl rfl rfl rfl hG⟩
      case o24_3 =>
        go_simp
        go_at_call 44
        refine (hN V4 hB).mono ?_
        rintro e w2 ⟨s, rfl, hb⟩
        have qR := qR.below hb
        have qB := qB.below hb
        have hB := hB.trans (hb.mono hB.size)
        have hzV : w.heap.size + 1 < w2.heap.size := qR.lt
        clear c0 c1 c2 c3 c4 c5 c6 c7 c8 c9 c10 c11
        go_wp2
        refine leaves_cons (f := 40) (args := #[.pointer (some ⟨w.heap.size, 0, none⟩), .pointer (some ⟨w.heap.size + 1, 0, none⟩)]) (by simp) (by simp [go_sem]) ?_
        refine (stepc_gone _ w.heap.size (w.heap.size + 1) w _ ⟨p, [r0, r1, r2, r3], [s0, s1, s2], [n0, n1, n2, n3]⟩ a1 c1 a2 c2 a3 c3 qB qR (by omega) (h.below hB) (by simp) (by simp) (by simp) (Nat.le_succ _) hzV hB).mono ?_
        rintro e u w3 ⟨rfl, rfl, k1, m1, k2, m2, k3, m3, qF, hG⟩
        have g0 := qF.at (x := 0) rfl
        have g1 := qF.at (x := 1) rfl
        have g2 := qF.at (x := 2) rfl
        have g3 := qF.at (x := 3) rfl
        exact ⟨.agg #[.int .i64 p, .slice k1 4 m1, .slice k2 3 m2, .slice k3 4 m3], by simp [results, Try.results12, go_sem, g0, g1, g2, g3], given_s rfl rfl rfl rfl hG⟩
      case o24_4 =>
        go_simp
        refine hK.out _ _ trivial (fun _ => ?_)
        clear hK K
        try simp only [Act.put, List.setIfInBounds_toArray, List.set_cons_zero, List.set_cons_succ]
        refine wpAnyH_ready (rs := [0, 3]) (by kernel_rfl) (by simp) ?_
        refine (AllReadyH.cons (List.getElem?_toArray.trans rfl) (fun K hK => ?o27_0) (AllReadyH.cons (List.getElem?_toArray.trans rfl) (fun K hK => ?o27_3) AllReadyH.nil))
        case o27_0 =>
          go_simp
          refine hK.out _ _ trivial (fun _ => ?_)
          clear hK K
          try simp only [Act.put, List.setIfInBounds_toArray, List.set_cons_zero, List.set_cons_succ]
          refine wpAnyH_ready (rs := [3]) (by kernel_rfl) (by simp) ?_
          refine (AllReadyH.cons (List.getElem?_toArray.trans rfl) (fun K hK => ?o28_3) AllReadyH.nil)
          case o28_3 =>
            go_simp
            go_at_call 44
            refine (hN V4 hB).mono ?_
            rintro e w2 ⟨s, rfl, hb⟩
            have qR := qR.below hb
            have qB := qB.below hb
            have hB := hB.trans (hb.mono hB.size)
            have hzV : w.heap.size + 1 < w2.heap.size := qR.lt
            clear c0 c1 c2 c3 c4 c5 c6 c7 c8 c9 c10 c11
            go_wp2
            refine leaves_cons (f := 40) (args := #[.pointer (some ⟨w.heap.size, 0, none⟩), .pointer (some ⟨w.heap.size + 1, 0, none⟩)]) (by simp) (by simp [go_sem]) ?_
            refine (stepc_gone _ w.heap.size (w.heap.size + 1) w _ ⟨p, [r0, r1, r2, r3], [s0, s1, s2], [n0, n1, n2, n3]⟩ a1 c1 a2 c2 a3 c3 qB qR (by omega) (h.below hB) (by simp) (by simp) (by simp) (Nat.le_succ _) hzV hB).mono ?_
            rintro e u w3 ⟨rfl, rfl, k1, m1, k2, m2, k3, m3, qF, hG⟩
            have g0 := qF.at (x := 0) rfl
            have g1 := qF.at (x := 1) rfl
            have g2 := qF.at (x := 2) rfl
            have g3 := qF.at (x := 3) rfl
            exact ⟨.agg #[.int .i64 p, .slice k1 4 m1, .slice k2 3 m2, .slice k3 4 m3], by simp [results, Try.results12, go_sem, g0, g1, g2, g3], given_s rfl rfl rfl rfl hG⟩
        case o27_3 =>
          go_simp
          go_at_call 44
          refine (hN V4 hB).mono ?_
          rintro e w2 ⟨s, rfl, hb⟩
          have qR := qR.below hb
          have qB := qB.below hb
          have hB := hB.trans (hb.mono hB.size)
          have hzV : w.heap.size + 1 < w2.heap.size := qR.lt
          clear c0 c1 c2 c3 c4 c5 c6 c7 c8 c9 c10 c11
          go_wp2
          refine leaves_cons (f := 40) (args := #[.pointer (some ⟨w.heap.size, 0, none⟩), .pointer (some ⟨w.heap.size + 1, 0, none⟩)]) (by simp) (by simp [go_sem]) ?_
          refine (stepc_gone _ w.heap.size (w.heap.size + 1) w _ ⟨p, [r0, r1, r2, r3], [s0, s1, s2], [n0, n1, n2, n3]⟩ a1 c1 a2 c2 a3 c3 qB qR (by omega) (h.below hB) (by simp) (by simp) (by simp) (Nat.le_succ _) hzV hB).mono ?_
          rintro e u w3 ⟨rfl, rfl, k1, m1, k2, m2, k3, m3, qF, hG⟩
          have g0 := qF.at (x := 0) rfl
          have g1 := qF.at (x := 1) rfl
          have g2 := qF.at (x := 2) rfl
          have g3 := qF.at (x := 3) rfl
          exact ⟨.agg #[.int .i64 p, .slice k1 4 m1, .slice k2 3 m2, .slice k3 4 m3], by simp [results, Try.results12, go_sem, g0, g1, g2, g3], given_s rfl rfl rfl rfl hG⟩
    case o18_4 =>
      go_simp
      refine hK.out _ _ trivial (fun _ => ?_)
      clear hK K
      try simp only [Act.put, List.setIfInBounds_toArray, List.set_cons_zero, List.set_cons_succ]
      refine wpAnyH_ready (rs := [0, 2]) (by kernel_rfl) (by simp) ?_
      refine (AllReadyH.cons (List.getElem?_toArray.trans rfl) (fun K hK => ?o29_0) (AllReadyH.cons (List.getElem?_toArray.trans rfl) (fun K hK => ?o29_2) AllReadyH.nil))
      case o29_0 =>
        go_simp
        refine hK.out _ _ trivial (fun _ => ?_)
        clear hK K
        try simp only [Act.put, List.setIfInBounds_toArray, List.set_cons_zero, List.set_cons_succ]
        refine wpAnyH_ready (rs := [2]) (by kernel_rfl) (by simp) ?_
        refine (AllReadyH.cons (List.getElem?_toArray.trans rfl) (fun K hK => ?o30_2) AllReadyH.nil)
        case o30_2 =>
          go_simp
          refine hK.out _ _ trivial (fun _ => ?_)
          clear hK K
          try simp only [Act.put, List.setIfInBounds_toArray, List.set_cons_zero, List.set_cons_succ]
          refine wpAnyH_ready (rs := [3]) (by kernel_rfl) (by simp) ?_
          refine (AllReadyH.cons (List.getElem?_toArray.trans rfl) (fun K hK => ?o31_3) AllReadyH.nil)
          case o31_3 =>
            go_simp
            go_at_call 44
            refine (hN V4 hB).mono ?_
            rintro e w2 ⟨s, rfl, hb⟩
            have qR := qR.below hb
            have qB := qB.below hb
            have hB := hB.trans (hb.mono hB.size)
            have hzV : w.heap.size + 1 < w2.heap.size := qR.lt
            clear c0 c1 c2 c3 c4 c5 c6 c7 c8 c9 c10 c11
            go_wp2
            refine leaves_cons (f := 40) (args := #[.pointer (some ⟨w.heap.size, 0, none⟩), .pointer (some ⟨w.heap.size + 1, 0, none⟩)]) (by simp) (by simp [go_sem]) ?_
            refine (stepc_gone _ w.heap.size (w.heap.size + 1) w _ ⟨p, [r0, r1, r2, r3], [s0, s1, s2], [n0, n1, n2, n3]⟩ a1 c1 a2 c2 a3 c3 qB qR (by omega) (h.below hB) (by simp) (by simp) (by simp) (Nat.le_succ _) hzV hB).mono ?_
            rintro e u w3 ⟨rfl, rfl, k1, m1, k2, m2, k3, m3, qF, hG⟩
            have g0 := qF.at (x := 0) rfl
            have g1 := qF.at (x := 1) rfl
            have g2 := qF.at (x := 2) rfl
            have g3 := qF.at (x := 3) rfl
            exact ⟨.agg #[.int .i64 p, .slice k1 4 m1, .slice k2 3 m2, .slice k3 4 m3], by simp [results, Try.results12, go_sem, g0, g1, g2, g3], given_s rfl rfl rfl rfl hG⟩
      case o29_2 =>
        go_simp
        refine hK.out _ _ trivial (fun _ => ?_)
        clear hK K
        try simp only [Act.put, List.setIfInBounds_toArray, List.set_cons_zero, List.set_cons_succ]
        refine wpAnyH_ready (rs := [0, 3]) (by kernel_rfl) (by simp) ?_
        refine (AllReadyH.cons (List.getElem?_toArray.trans rfl) (fun K hK => ?o32_0) (AllReadyH.cons (List.getElem?_toArray.trans rfl) (fun K hK => ?o32_3) AllReadyH.nil))
        case o32_0 =>
          go_simp
          refine hK.out _ _ trivial (fun _ => ?_)
          clear hK K
          try simp only [Act.put, List.setIfInBounds_toArray, List.set_cons_zero, List.set_cons_succ]
          refine wpAnyH_ready (rs := [3]) (by kernel_rfl) (by simp) ?_
          refine (AllReadyH.cons (List.getElem?_toArray.trans rfl) (fun K hK => ?o33_3) AllReadyH.nil)
          case o33_3 =>
            go_simp
            go_at_call 44
            refine (hN V4 hB).mono ?_
            rintro e w2 ⟨s, rfl, hb⟩
            have qR := qR.below hb
            have qB := qB.below hb
            have hB := hB.trans (hb.mono hB.size)
            have hzV : w.heap.size + 1 < w2.heap.size := qR.lt
            clear c0 c1 c2 c3 c4 c5 c6 c7 c8 c9 c10 c11
            go_wp2
            refine leaves_cons (f := 40) (args := #[.pointer (some ⟨w.heap.size, 0, none⟩), .pointer (some ⟨w.heap.size + 1, 0, none⟩)]) (by simp) (by simp [go_sem]) ?_
            refine (stepc_gone _ w.heap.size (w.heap.size + 1) w _ ⟨p, [r0, r1, r2, r3], [s0, s1, s2], [n0, n1, n2, n3]⟩ a1 c1 a2 c2 a3 c3 qB qR (by omega) (h.below hB) (by simp) (by simp) (by simp) (Nat.le_succ _) hzV hB).mono ?_
            rintro e u w3 ⟨rfl, rfl, k1, m1, k2, m2, k3, m3, qF, hG⟩
            have g0 := qF.at (x := 0) rfl
            have g1 := qF.at (x := 1) rfl
            have g2 := qF.at (x := 2) rfl
            have g3 := qF.at (x := 3) rfl
            exact ⟨.agg #[.int .i64 p, .slice k1 4 m1, .slice k2 3 m2, .slice k3 4 m3], by simp [results, Try.results12, go_sem, g0, g1, g2, g3], given_s rfl rfl rfl rfl hG⟩
        case o32_3 =>
          go_simp
          go_at_call 44
          refine (hN V4 hB).mono ?_
          rintro e w2 ⟨s, rfl, hb⟩
          have qR := qR.below hb
          have qB := qB.below hb
          have hB := hB.trans (hb.mono hB.size)
          have hzV : w.heap.size + 1 < w2.heap.size := qR.lt
          clear c0 c1 c2 c3 c4 c5 c6 c7 c8 c9 c10 c11
          go_wp2
          refine leaves_cons (f := 40) (args := #[.pointer (some ⟨w.heap.size, 0, none⟩), .pointer (some ⟨w.heap.size + 1, 0, none⟩)]) (by simp) (by simp [go_sem]) ?_
          refine (stepc_gone _ w.heap.size (w.heap.size + 1) w _ ⟨p, [r0, r1, r2, r3], [s0, s1, s2], [n0, n1, n2, n3]⟩ a1 c1 a2 c2 a3 c3 qB qR (by omega) (h.below hB) (by simp) (by simp) (by simp) (Nat.le_succ _) hzV hB).mono ?_
          rintro e u w3 ⟨rfl, rfl, k1, m1, k2, m2, k3, m3, qF, hG⟩
          have g0 := qF.at (x := 0) rfl
          have g1 := qF.at (x := 1) rfl
          have g2 := qF.at (x := 2) rfl
          have g3 := qF.at (x := 3) rfl
          exact ⟨.agg #[.int .i64 p, .slice k1 4 m1, .slice k2 3 m2, .slice k3 4 m3], by simp [results, Try.results12, go_sem, g0, g1, g2, g3], given_s rfl rfl rfl rfl hG⟩
  case o1_2 =>
    go_simp
    refine hK.out _ _ trivial (fun _ => ?_)
    clear hK K
    try simp only [Act.put, List.setIfInBounds_toArray, List.set_cons_zero, List.set_cons_succ]
    refine wpAnyH_ready (rs := [0, 1, 4]) (by kernel_rfl) (by simp) ?_
    refine (AllReadyH.cons (List.getElem?_toArray.trans rfl) (fun K hK => ?o34_0) (AllReadyH.cons (List.getElem?_toArray.trans rfl) (fun K hK => ?o34_1) (AllReadyH.cons (List.getElem?_toArray.trans rfl) (fun K hK => ?o34_4) AllReadyH.nil)))
    case o34_0 =>
      go_simp
      refine hK.out _ _ trivial (fun _ => ?_)
      clear hK K
      try simp only [Act.put, List.setIfInBounds_toArray, List.set_cons_zero, List.set_cons_succ]
      refine wpAnyH_ready (rs := [1, 4]) (by kernel_rfl) (by simp) ?_
      refine (AllReadyH.cons (List.getElem?_toArray.trans rfl) (fun K hK => ?o35_1) (AllReadyH.cons (List.getElem?_toArray.trans rfl) (fun K hK => ?o35_4) AllReadyH.nil))
      case o35_1 =>
        go_simp
        refine hK.out _ _ trivial (fun _ => ?_)
        clear hK K
        try simp only [Act.put, List.setIfInBounds_toArray, List.set_cons_zero, List.set_cons_succ]
        refine wpAnyH_ready (rs := [3, 4]) (by kernel_rfl) (by simp) ?_
        refine (AllReadyH.cons (List.getElem?_toArray.trans rfl) (fun K hK => ?o36_3) (AllReadyH.cons (List.getElem?_toArray.trans rfl) (fun K hK => ?o36_4) AllReadyH.nil))
        case o36_3 =>
          go_simp
          go_at_call 44
          refine (hN V4 hB).mono ?_
          rintro e w2 ⟨s, rfl, hb⟩
          have qR := qR.below hb
          have qB := qB.below hb
          have hB := hB.trans (hb.mono hB.size)
          have hzV : w.heap.size + 1 < w2.heap.size := qR.lt
          clear c0 c1 c2 c3 c4 c5 c6 c7 c8 c9 c10 c11
          go_wp2
          refine leaves_cons (f := 40) (args := #[.pointer (some ⟨w.heap.size, 0, none⟩), .pointer (some ⟨w.heap.size + 1, 0, none⟩)]) (by simp) (by simp [go_sem]) ?_
          refine (stepc_gone _ w.heap.size (w.heap.size + 1) w _ ⟨p, [r0, r1, r2, r3], [s0, s1, s2], [n0, n1, n2, n3]⟩ a1 c1 a2 c2 a3 c3 qB qR (by omega) (h.below hB) (by simp) (by simp) (by simp) (Nat.le_succ _) hzV hB).mono ?_
          rintro e u w3 ⟨rfl, rfl, k1, m1, k2, m2, k3, m3, qF, hG⟩
          have g0 := qF.at (x := 0) rfl
          have g1 := qF.at (x := 1) rfl
          have g2 := qF.at (x := 2) rfl
          have g3 := qF.at (x := 3) rfl
          exact ⟨.agg #[.int .i64 p, .slice k1 4 m1, .slice k2 3 m2, .slice k3 4 m3], by simp [results, Try.results12, go_sem, g0, g1, g2, g3], given_s rfl rfl rfl rfl hG⟩
        case o36_4 =>
          go_simp
          refine hK.out _ _ trivial (fun _ => ?_)
          clear hK K
          try simp only [Act.put, List.setIfInBounds_toArray, List.set_cons_zero, List.set_cons_succ]
          refine wpAnyH_ready (rs := [3]) (by kernel_rfl) (by simp) ?_
          refine (AllReadyH.cons (List.getElem?_toArray.trans rfl) (fun K hK => ?o37_3) AllReadyH.nil)
          case o37_3 =>
            go_simp
            go_at_call 44
            refine (hN V4 hB).mono ?_
            rintro e w2 ⟨s, rfl, hb⟩
            have qR := qR.below hb
            have qB := qB.below hb
            have hB := hB.trans (hb.mono hB.size)
            have hzV : w.heap.size + 1 < w2.heap.size := qR.lt
            clear c0 c1 c2 c3 c4 c5 c6 c7 c8 c9 c10 c11
            go_wp2
            refine leaves_cons (f := 40) (args := #[.pointer (some ⟨w.heap.size, 0, none⟩), .pointer (some ⟨w.heap.size + 1, 0, none⟩)]) (by simp) (by simp [go_sem]) ?_
            refine (stepc_gone _ w.heap.size (w.heap.size + 1) w _ ⟨p, [r0, r1, r2, r3], [s0, s1, s2], [n0, n1, n2, n3]⟩ a1 c1 a2 c2 a3 c3 qB qR (by omega) (h.below hB) (by simp) (by simp) (by simp) (Nat.le_succ _) hzV hB).mono ?_
            rintro e u w3 ⟨rfl, rfl, k1, m1, k2, m2, k3, m3, qF, hG⟩
            have g0 := qF.at (x := 0) rfl
            have g1 := qF.at (x := 1) rfl
            have g2 := qF.at (x := 2) rfl
            have g3 := qF.at (x := 3) rfl
            exact ⟨.agg #[.int .i64 p, .slice k1 4 m1, .slice k2 3 m2, .slice k3 4 m3], by simp [results, Try.results12, go_sem, g0, g1, g2, g3], given_s rfl rfl rfl rfl hG⟩
      case o35_4 =>
        go_simp
        refine hK.out _ _ trivial (fun _ => ?_)
        clear hK K
        try simp only [Act.put, List.setIfInBounds_toArray, List.set_cons_zero, List.set_cons_succ]
        refine wpAnyH_ready (rs := [1]) (by kernel_rfl) (by simp) ?_
        refine (AllReadyH.cons (List.getElem?_toArray.trans rfl) (fun K hK => ?o38_1) AllReadyH.nil)
        case o38_1 =>
          go_simp
          refine hK.out _ _ trivial (fun _ => ?_)
          clear hK K
          try simp only [Act.put, List.setIfInBounds_toArray, List.set_cons_zero, List.set_cons_succ]
          refine wpAnyH_ready (rs := [3]) (by kernel_rfl) (by simp) ?_
          refine (AllReadyH.cons (List.getElem?_toArray.trans rfl) (fun K hK => ?o39_3) AllReadyH.nil)
          case o39_3 =>
            go_simp
            go_at_call 44
            refine (hN V4 hB).mono ?_
            rintro e w2 ⟨s, rfl, hb⟩
            have qR := qR.below hb
            have qB := qB.below hb
            have hB := hB.trans (hb.mono hB.size)
            have hzV : w.heap.size + 1 < w2.heap.size := qR.lt
            clear c0 c1 c2 c3 c4 c5 c6 c7 c8 c9 c10 c11
            go_wp2
            refine leaves_cons (f := 40) (args := #[.pointer (some ⟨w.heap.size, 0, none⟩), .pointer (some ⟨w.heap.size + 1, 0, none⟩)]) (by simp) (by simp [go_sem]) ?_
            refine (stepc_gone _ w.heap.size (w.heap.size + 1) w _ ⟨p, [r0, r1, r2, r3], [s0, s1, s2], [n0, n1, n2, n3]⟩ a1 c1 a2 c2 a3 c3 qB qR (by omega) (h.below hB) (by simp) (by simp) (by simp) (Nat.le_succ _) hzV hB).mono ?_
            rintro e u w3 ⟨rfl, rfl, k1, m1, k2, m2, k3, m3, qF, hG⟩
            have g0 := qF.at (x := 0) rfl
            have g1 := qF.at (x := 1) rfl
            have g2 := qF.at (x := 2) rfl
            have g3 := qF.at (x := 3) rfl
            exact ⟨.agg #[.int .i64 p, .slice k1 4 m1, .slice k2 3 m2, .slice k3 4 m3], by simp [results, Try.results12, go_sem, g0, g1, g2, g3], given_s rfl rfl rfl rfl hG⟩
    case o34_1 =>
      go_simp
      refine hK.out _ _ trivial (fun _ => ?_)
      clear hK K
      try simp only [Act.put, List.setIfInBounds_toArray, List.set_cons_zero, List.set_cons_succ]
      refine wpAnyH_ready (rs := [0, 3, 4]) (by kernel_rfl) (by simp) ?_
      refine (AllReadyH.cons (List.getElem?_toArray.trans rfl) (fun K hK => ?o40_0) (AllReadyH.cons (List.getElem?_toArray.trans rfl) (fun K hK => ?o40_3) (AllReadyH.cons (List.getElem?_toArray.trans rfl) (fun K hK => ?o40_4) AllReadyH.nil)))
      case o40_0 =>
        go_simp
        refine hK.out _ _ trivial (fun _ => ?_)
        clear hK K
        try simp only [Act.put, List.setIfInBounds_toArray, List.set_cons_zero, List.set_cons_succ]
        refine wpAnyH_ready (rs := [3, 4]) (by kernel_rfl) (by simp) ?_
        refine (AllReadyH.cons (List.getElem?_toArray.trans rfl) (fun K hK => ?o41_3) (AllReadyH.cons (List.getElem?_toArray.trans rfl) (fun K hK => ?o41_4) AllReadyH.nil))
        case o41_3 =>
          go_simp
          go_at_call 44
          refine (hN V4 hB).mono ?_
          rintro e w2 ⟨s, rfl, hb⟩
          have qR := qR.below hb
          have qB := qB.below hb
          have hB := hB.trans (hb.mono hB.size)
          have hzV : w.heap.size + 1 < w2.heap.size := qR.lt
          clear c0 c1 c2 c3 c4 c5 c6 c7 c8 c9 c10 c11
          go_wp2
          refine leaves_cons (f := 40) (args := #[.pointer (some ⟨w.heap.size, 0, none⟩), .pointer (some ⟨w.heap.size + 1, 0, none⟩)]) (by simp) (by simp [go_sem]) ?_
          refine (stepc_gone _ w.heap.size (w.heap.size + 1) w _ ⟨p, [r0, r1, r2, r3], [s0, s1, s2], [n0, n1, n2, n3]⟩ a1 c1 a2 c2 a3 c3 qB qR (by omega) (h.below hB) (by simp) (by simp) (by simp) (Nat.le_succ _) hzV hB).mono ?_
          rintro e u w3 ⟨rfl, rfl, k1, m1, k2, m2, k3, m3, qF, hG⟩
          have g0 := qF.at (x := 0) rfl
          have g1 := qF.at (x := 1) rfl
          have g2 := qF.at (x := 2) rfl
          have g3 := qF.at (x := 3) rfl
          exact ⟨.agg #[.int .i64 p, .slice k1 4 m1, .slice k2 3 m2, .slice k3 4 m3], by simp [results, Try.results12, go_sem, g0, g1, g2, g3], given_s rfl rfl rfl rfl hG⟩
        case o41_4 =>
          go_simp
          refine hK.out _ _ trivial (fun _ => ?_)
          clear hK K
          try simp only [Act.put, List.setIfInBounds_toArray, List.set_cons_zero, List.set_cons_succ]
          refine wpAnyH_ready (rs := [3]) (by kernel_rfl) (by simp) ?_
          refine (AllReadyH.cons (List.getElem?_toArray.trans rfl) (fun K hK => ?o42_3) AllReadyH.nil)
          case o42_3 =>
            go_simp
            go_at_call 44
            refine (hN V4 hB).mono ?_
            rintro e w2 ⟨s, rfl, hb⟩
            have qR := qR.below hb
            have qB := qB.below hb
            have hB := hB.trans (hb.mono hB.size)
            have hzV : w.heap.size + 1 < w2.heap.size := qR.lt
            clear c0 c1 c2 c3 c4 c5 c6 c7 c8 c9 c10 c11
            go_wp2
            refine leaves_cons (f := 40) (args := #[.pointer (some ⟨w.heap.size, 0, none⟩), .pointer (some ⟨w.heap.size + 1, 0, none⟩)]) (by simp) (by simp [go_sem]) ?_
            refine (stepc_gone _ w.heap.size (w.heap.size + 1) w _ ⟨p, [r0, r1, r2, r3], [s0, s1, s2], [n0, n1, n2, n3]⟩ a1 c1 a2 c2 a3 c3 qB qR (by omega) (h.below hB) (by simp) (by simp) (by simp) (Nat.le_succ _) hzV hB).mono ?_
            rintro e u w3 ⟨rfl, rfl, k1, m1, k2, m2, k3, m3, qF, hG⟩
            have g0 := qF.at (x := 0) rfl
            have g1 := qF.at (x := 1) rfl
            have g2 := qF.at (x := 2) rfl
            have g3 := qF.at (x := 3) rfl
            exact ⟨.agg #[.int .i64 p, .slice k1 4 m1, .slice k2 3 m2, .slice k3 4 m3], by simp [results, Try.results12, go_sem, g0, g1, g2, g3], given_s rfl rfl rfl rfl hG⟩
      case o40_3 =>
        go_simp
        go_at_call 44
        refine (hN V4 hB).mono ?_
        rintro e w2 ⟨s, rfl, hb⟩
        have qR := qR.below hb
        have qB := qB.below hb
        have hB := hB.trans (hb.mono hB.size)
        have hzV : w.heap.size + 1 < w2.heap.size := qR.lt
        clear c0 c1 c2 c3 c4 c5 c6 c7 c8 c9 c10 c11
        go_wp2
        refine leaves_cons (f := 40) (args := #[.pointer (some ⟨w.heap.size, 0, none⟩), .pointer (some ⟨w.heap.size + 1, 0, none⟩)]) (by simp) (by simp [go_sem]) ?_
        refine (stepc_gone _ w.heap.size (w.heap.size + 1) w _ ⟨p, [r0, r1, r2, r3], [s0, s1, s2], [n0, n1, n2, n3]⟩ a1 c1 a2 c2 a3 c3 qB qR (by omega) (h.below hB) (by simp) (by simp) (by simp) (Nat.le_succ _) hzV hB).mono ?_
        rintro e u w3 ⟨rfl, rfl, k1, m1, k2, m2, k3, m3, qF, hG⟩
        have g0 := qF.at (x := 0) rfl
        have g1 := qF.at (x := 1) rfl
        have g2 := qF.at (x := 2) rfl
        have g3 := qF.at (x := 3) rfl
        exact ⟨.agg #[.int .i64 p, .slice k1 4 m1, .slice k2 3 m2, .slice k3 4 m3], by simp [results, Try.results12, go_sem, g0, g1, g2, g3], given_s rfl rfl rfl rfl hG⟩
      case o40_4 =>
        go_simp
        refine hK.out _ _ trivial (fun _ => ?_)
        clear hK K
        try simp only [Act.put, List.setIfInBounds_toArray, List.set_cons_zero, List.set_cons_succ]
        refine wpAnyH_ready (rs := [0, 3]) (by kernel_rfl) (by simp) ?_
        refine (AllReadyH.cons (List.getElem?_toArray.trans rfl) (fun K hK => ?o43_0) (AllReadyH.cons (List.getElem?_toArray.trans rfl) (fun K hK => ?o43_3) AllReadyH.nil))
        case o43_0 =>
          go_simp
          refine hK.out _ _ trivial (fun _ => ?_)
          clear hK K
          try simp only [Act.put, List.setIfInBounds_toArray, List.set_cons_zero, List.set_cons_succ]
          refine wpAnyH_ready (rs := [3]) (by kernel_rfl) (by simp) ?_
          refine (AllReadyH.cons (List.getElem?_toArray.trans rfl) (fun K hK => ?o44_3) AllReadyH.nil)
          case o44_3 =>
            go_simp
            go_at_call 44
            refine (hN V4 hB).mono ?_
            rintro e w2 ⟨s, rfl, hb⟩
            have qR := qR.below hb
            have qB := qB.below hb
            have hB := hB.trans (hb.mono hB.size)
            have hzV : w.heap.size + 1 < w2.heap.size := qR.lt
            clear c0 c1 c2 c3 c4 c5 c6 c7 c8 c9 c10 c11
            go_wp2
            refine leaves_cons (f := 40) (args := #[.pointer (some ⟨w.heap.size, 0, none⟩), .pointer (some ⟨w.heap.size + 1, 0, none⟩)]) (by simp) (by simp [go_sem]) ?_
            refine (stepc_gone _ w.heap.size (w.heap.size + 1) w _ ⟨p, [r0, r1, r2, r3], [s0, s1, s2], [n0, n1, n2, n3]⟩ a1 c1 a2 c2 a3 c3 qB qR (by omega) (h.below hB) (by simp) (by simp) (by simp) (Nat.le_succ _) hzV hB).mono ?_
            rintro e u w3 ⟨rfl, rfl, k1, m1, k2, m2, k3, m3, qF, hG⟩
            have g0 := qF.at (x := 0) rfl
            have g1 := qF.at (x := 1) rfl
            have g2 := qF.at (x := 2) rfl
            have g3 := qF.at (x := 3) rfl
            exact ⟨.agg #[.int .i64 p, .slice k1 4 m1, .slice k2 3 m2, .slice k3 4 m3], by simp [results, Try.results12, go_sem, g0, g1, g2, g3], given_s rfl rfl rfl rfl hG⟩
        case o43_3 =>
          go_simp
          go_at_call 44
          refine (hN V4 hB).mono ?_
          rintro e w2 ⟨s, rfl, hb⟩
          have qR := qR.below hb
          have qB := qB.below hb
          have hB := hB.trans (hb.mono hB.size)
          have hzV : w.heap.size + 1 < w2.heap.size := qR.lt
          clear c0 c1 c2 c3 c4 c5 c6 c7 c8 c9 c10 c11
          go_wp2
          refine leaves_cons (f := 40) (args := #[.pointer (some ⟨w.heap.size, 0, none⟩), .pointer (some ⟨w.heap.size + 1, 0, none⟩)]) (by simp) (by simp [go_sem]) ?_
          refine (stepc_gone _ w.heap.size (w.heap.size + 1) w _ ⟨p, [r0, r1, r2, r3], [s0, s1, s2], [n0, n1, n2, n3]⟩ a1 c1 a2 c2 a3 c3 qB qR (by omega) (h.below hB) (by simp) (by simp) (by simp) (Nat.le_succ _) hzV hB).mono ?_
          rintro e u w3 ⟨rfl, rfl, k1, m1, k2, m2, k3, m3, qF, hG⟩
          have g0 := qF.at (x := 0) rfl
          have g1 := qF.at (x := 1) rfl
          have g2 := qF.at (x := 2) rfl
          have g3 := qF.at (x := 3) rfl
          exact ⟨.agg #[.int .i64 p, .slice k1 4 m1, .slice k2 3 m2, .slice k3 4 m3], by simp [results, Try.results12, go_sem, g0, g1, g2, g3], given_s rfl rfl rfl rfl hG⟩
    case o34_4 =>
      go_simp
      refine hK.out _ _ trivial (fun _ => ?_)
      clear hK K
      try simp only [Act.put, List.setIfInBounds_toArray, List.set_cons_zero, List.set_cons_succ]
      refine wpAnyH_ready (rs := [0, 1]) (by kernel_rfl) (by simp) ?_
      refine (AllReadyH.cons (List.getElem?_toArray.trans rfl) (fun K hK => ?o45_0) (AllReadyH.cons (List.getElem?_toArray.trans rfl) (fun K hK => ?o45_1) AllReadyH.nil))
      case o45_0 =>
        go_simp
        refine hK.out _ _ trivial (fun _ => ?_)
        clear hK K
        try simp only [Act.put, List.setIfInBounds_toArray, List.set_cons_zero, List.set_cons_succ]
        refine wpAnyH_ready (rs := [1]) (by kernel_rfl) (by simp) ?_
        refine (AllReadyH.cons (List.getElem?_toArray.trans rfl) (fun K hK => ?o46_1) AllReadyH.nil)
        case o46_1 =>
          go_simp
          refine hK.out _ _ trivial (fun _ => ?_)
          clear hK K
          try simp only [Act.put, List.setIfInBounds_toArray, List.set_cons_zero, List.set_cons_succ]
          refine wpAnyH_ready (rs := [3]) (by kernel_rfl) (by simp) ?_
          refine (AllReadyH.cons (List.getElem?_toArray.trans rfl) (fun K hK => ?o47_3) AllReadyH.nil)
          case o47_3 =>
            go_simp
            go_at_call 44
            refine (hN V4 hB).mono ?_
            rintro e w2 ⟨s, rfl, hb⟩
            have qR := qR.below hb
            have qB := qB.below hb
            have hB := hB.trans (hb.mono hB.size)
            have hzV : w.heap.size + 1 < w2.heap.size := qR.lt
            clear c0 c1 c2 c3 c4 c5 c6 c7 c8 c9 c10 c11
            go_wp2
            refine leaves_cons (f := 40) (args := #[.pointer (some ⟨w.heap.size, 0, none⟩), .pointer (some ⟨w.heap.size + 1, 0, none⟩)]) (by simp) (by simp [go_sem]) ?_
            refine (stepc_gone _ w.heap.size (w.heap.size + 1) w _ ⟨p, [r0, r1, r2, r3], [s0, s1, s2], [n0, n1, n2, n3]⟩ a1 c1 a2 c2 a3 c3 qB qR (by omega) (h.below hB) (by simp) (by simp) (by simp) (Nat.le_succ _) hzV hB).mono ?_
            rintro e u w3 ⟨rfl, rfl, k1, m1, k2, m2, k3, m3, qF, hG⟩
            have g0 := qF.at (x := 0) rfl
            have g1 := qF.at (x := 1) rfl
            have g2 := qF.at (x := 2) rfl
            have g3 := qF.at (x := 3) rfl
            exact ⟨.agg #[.int .i64 p, .slice k1 4 m1, .slice k2 3 m2, .slice k3 4 m3], by simp [results, Try.results12, go_sem, g0, g1, g2, g3], given_s rfl rfl rfl rfl hG⟩
      case o45_1 =>
        go_simp
        refine hK.out _ _ trivial (fun _ => ?_)
        clear hK K
        try simp only [Act.put, List.setIfInBounds_toArray, List.set_cons_zero, List.set_cons_succ]
        refine wpAnyH_ready (rs := [0, 3]) (by kernel_rfl) (by simp) ?_
        refine (AllReadyH.cons (List.getElem?_toArray.trans rfl) (fun K hK => ?o48_0) (AllReadyH.cons (List.getElem?_toArray.trans rfl) (fun K hK => ?o48_3) AllReadyH.nil))
        case o48_0 =>
          go_simp
          refine hK.out _ _ trivial (fun _ => ?_)
          clear hK K
          try simp only [Act.put, List.setIfInBounds_toArray, List.set_cons_zero, List.set_cons_succ]
          refine wpAnyH_ready (rs := [3]) (by kernel_rfl) (by simp) ?_
          refine (AllReadyH.cons (List.getElem?_toArray.trans rfl) (fun K hK => ?o49_3) AllReadyH.nil)
          case o49_3 =>
            go_simp
            go_at_call 44
            refine (hN V4 hB).mono ?_
            rintro e w2 ⟨s, rfl, hb⟩
            have qR := qR.below hb
            have qB := qB.below hb
            have hB := hB.trans (hb.mono hB.size)
            have hzV : w.heap.size + 1 < w2.heap.size := qR.lt
            clear c0 c1 c2 c3 c4 c5 c6 c7 c8 c9 c10 c11
            go_wp2
            refine leaves_cons (f := 40) (args := #[.pointer (some ⟨w.heap.size, 0, none⟩), .pointer (some ⟨w.heap.size + 1, 0, none⟩)]) (by simp) (by simp [go_sem]) ?_
            refine (stepc_gone _ w.heap.size (w.heap.size + 1) w _ ⟨p, [r0, r1, r2, r3], [s0, s1, s2], [n0, n1, n2, n3]⟩ a1 c1 a2 c2 a3 c3 qB qR (by omega) (h.below hB) (by simp) (by simp) (by simp) (Nat.le_succ _) hzV hB).mono ?_
            rintro e u w3 ⟨rfl, rfl, k1, m1, k2, m2, k3, m3, qF, hG⟩
            have g0 := qF.at (x := 0) rfl
            have g1 := qF.at (x := 1) rfl
            have g2 := qF.at (x := 2) rfl
            have g3 := qF.at (x := 3) rfl
            exact ⟨.agg #[.int .i64 p, .slice k1 4 m1, .slice k2 3 m2, .slice k3 4 m3], by simp [results, Try.results12, go_sem, g0, g1, g2, g3], given_s rfl rfl rfl rfl hG⟩
        case o48_3 =>
          go_simp
          go_at_call 44
          refine (hN V4 hB).mono ?_
          rintro e w2 ⟨s, rfl, hb⟩
          have qR := qR.below hb
          have qB := qB.below hb
          have hB := hB.trans (hb.mono hB.size)
          have hzV : w.heap.size + 1 < w2.heap.size := qR.lt
          clear c0 c1 c2 c3 c4 c5 c6 c7 c8 c9 c10 c11
          go_wp2
          refine leaves_cons (f := 40) (args := #[.pointer (some ⟨w.heap.size, 0, none⟩), .pointer (some ⟨w.heap.size + 1, 0, none⟩)]) (by simp) (by simp [go_sem]) ?_
          refine (stepc_gone _ w.heap.size (w.heap.size + 1) w _ ⟨p, [r0, r1, r2, r3], [s0, s1, s2], [n0, n1, n2, n3]⟩ a1 c1 a2 c2 a3 c3 qB qR (by omega) (h.below hB) (by simp) (by simp) (by simp) (Nat.le_succ _) hzV hB).mono ?_
          rintro e u w3 ⟨rfl, rfl, k1, m1, k2, m2, k3, m3, qF, hG⟩
          have g0 := qF.at (x := 0) rfl
          have g1 := qF.at (x := 1) rfl
          have g2 := qF.at (x := 2) rfl
          have g3 := qF.at (x := 3) rfl
          exact ⟨.agg #[.int .i64 p, .slice k1 4 m1, .slice k2 3 m2, .slice k3 4 m3], by simp [results, Try.results12, go_sem, g0, g1, g2, g3], given_s rfl rfl rfl rfl hG⟩
  case o1_4 =>
    go_simp
    refine hK.out _ _ trivial (fun _ => ?_)
    clear hK K
    try simp only [Act.put, List.setIfInBounds_toArray, List.set_cons_zero, List.set_cons_succ]
    refine wpAnyH_ready (rs := [0, 1, 2]) (by kernel_rfl) (by simp) ?_
    refine (AllReadyH.cons (List.getElem?_toArray.trans rfl) (fun K hK => ?o50_0) (AllReadyH.cons (List.getElem?_toArray.trans rfl) (fun K hK => ?o50_1) (AllReadyH.cons (List.getElem?_toArray.trans rfl) (fun K hK => ?o50_2) AllReadyH.nil)))
    case o50_0 =>
      go_simp
      refine hK.out _ _ trivial (fun _ => ?_)
      clear hK K
      try simp only [Act.put, List.setIfInBounds_toArray, List.set_cons_zero, List.set_cons_succ]
      refine wpAnyH_ready (rs := [1, 2]) (by kernel_rfl) (by simp) ?_
      refine (AllReadyH.cons (List.getElem?_toArray.trans rfl) (fun K hK => ?o51_1) (AllReadyH.cons (List.getElem?_toArray.trans rfl) (fun K hK => ?o51_2) AllReadyH.nil))
      case o51_1 =>
        go_simp
        refine hK.out _ _ trivial (fun _ => ?_)
        clear hK K
        try simp only [Act.put, List.setIfInBounds_toArray, List.set_cons_zero, List.set_cons_succ]
        refine wpAnyH_ready (rs := [2]) (by kernel_rfl) (by simp) ?_
        refine (AllReadyH.cons (List.getElem?_toArray.trans rfl) (fun K hK => ?o52_2) AllReadyH.nil)
        case o52_2 =>
          go_simp
          refine hK.out _ _ trivial (fun _ => ?_)
          clear hK K
          try simp only [Act.put, List.setIfInBounds_toArray, List.set_cons_zero, List.set_cons_succ]
          refine wpAnyH_ready (rs := [3]) (by kernel_rfl) (by simp) ?_
          refine (AllReadyH.cons (List.getElem?_toArray.trans rfl) (fun K hK => ?o53_3) AllReadyH.nil)
          case o53_3 =>
            go_simp
            go_at_call 44
            refine (hN V4 hB).mono ?_
            rintro e w2 ⟨s, rfl, hb⟩
            have qR := qR.below hb
            have qB := qB.below hb
            have hB := hB.trans (hb.mono hB.size)
            have hzV : w.heap.size + 1 < w2.heap.size := qR.lt
            clear c0 c1 c2 c3 c4 c5 c6 c7 c8 c9 c10 c11
            go_wp2
            refine leaves_cons (f := 40) (args := #[.pointer (some ⟨w.heap.size, 0, none⟩), .pointer (some ⟨w.heap.size + 1, 0, none⟩)]) (by simp) (by simp [go_sem]) ?_
            refine (stepc_gone _ w.heap.size (w.heap.size + 1) w _ ⟨p, [r0, r1, r2, r3], [s0, s1, s2], [n0, n1, n2, n3]⟩ a1 c1 a2 c2 a3 c3 qB qR (by omega) (h.below hB) (by simp) (by simp) (by simp) (Nat.le_succ _) hzV hB).mono ?_
            rintro e u w3 ⟨rfl, rfl, k1, m1, k2, m2, k3, m3, qF, hG⟩
            have g0 := qF.at (x := 0) rfl
            have g1 := qF.at (x := 1) rfl
            have g2 := qF.at (x := 2) rfl
            have g3 := qF.at (x := 3) rfl
            exact ⟨.agg #[.int .i64 p, .slice k1 4 m1, .slice k2 3 m2, .slice k3 4 m3], by simp [results, Try.results12, go_sem, g0, g1, g2, g3], given_s rfl rfl rfl rfl hG⟩
      case o51_2 =>
        go_simp
        refine hK.out _ _ trivial (fun _ => ?_)
        clear hK K
        try simp only [Act.put, List.setIfInBounds_toArray, List.set_cons_zero, List.set_cons_succ]
        refine wpAnyH_ready (rs := [1]) (by kernel_rfl) (by simp) ?_
        refine (AllReadyH.cons (List.getElem?_toArray.trans rfl) (fun K hK => ?o54_1) AllReadyH.nil)
        case o54_1 =>
          go_simp
          refine hK.out _ _ trivial (fun _ => ?_)
          clear hK K
          try simp only [Act.put, List.setIfInBounds_toArray, List.set_cons_zero, List.set_cons_succ]
          refine wpAnyH_ready (rs := [3]) (by kernel_rfl) (by simp) ?_
          refine (AllReadyH.cons (List.getElem?_toArray.trans rfl) (fun K hK => ?o55_3) AllReadyH.nil)
          case o55_3 =>
            go_simp
            go_at_call 44
            refine (hN V4 hB).mono ?_
            rintro e w2 ⟨s, rfl, hb⟩
            have qR := qR.below hb
            have qB := qB.below hb
            have hB := hB.trans (hb.mono hB.size)
            have hzV : w.heap.size + 1 < w2.heap.size := qR.lt
            clear c0 c1 c2 c3 c4 c5 c6 c7 c8 c9 c10 c11
            go_wp2
            refine leaves_cons (f := 40) (args := #[.pointer (some ⟨w.heap.size, 0, none⟩), .pointer (some ⟨w.heap.size + 1, 0, none⟩)]) (by simp) (by simp [go_sem]) ?_
            refine (stepc_gone _ w.heap.size (w.heap.size + 1) w _ ⟨p, [r0, r1, r2, r3], [s0, s1, s2], [n0, n1, n2, n3]⟩ a1 c1 a2 c2 a3 c3 qB qR (by omega) (h.below hB) (by simp) (by simp) (by simp) (Nat.le_succ _) hzV hB).mono ?_
            rintro e u w3 ⟨rfl, rfl, k1, m1, k2, m2, k3, m3, qF, hG⟩
            have g0 := qF.at (x := 0) rfl
            have g1 := qF.at (x := 1) rfl
            have g2 := qF.at (x := 2) rfl
            have g3 := qF.at (x := 3) rfl
            exact ⟨.agg #[.int .i64 p, .slice k1 4 m1, .slice k2 3 m2, .slice k3 4 m3], by simp [results, Try.results12, go_sem, g0, g1, g2, g3], given_s rfl rfl rfl rfl hG⟩
    case o50_1 =>
      go_simp
      refine hK.out _ _ trivial (fun _ => ?_)
      clear hK K
      try simp only [Act.put, List.setIfInBounds_toArray, List.set_cons_zero, List.set_cons_succ]
      refine wpAnyH_ready (rs := [0, 2]) (by kernel_rfl) (by simp) ?_
      refine (AllReadyH.cons (List.getElem?_toArray.trans rfl) (fun K hK => ?o56_0) (AllReadyH.cons (List.getElem?_toArray.trans rfl) (fun K hK => ?o56_2) AllReadyH.nil))
      case o56_0 =>
        go_simp
        refine hK.out _ _ trivial (fun _ => ?_)
        clear hK K
        try simp only [Act.put, List.setIfInBounds_toArray, List.set_cons_zero, List.set_cons_succ]
        refine wpAnyH_ready (rs := [2]) (by kernel_rfl) (by simp) ?_
        refine (AllReadyH.cons (List.getElem?_toArray.trans rfl) (fun K hK => ?o57_2) AllReadyH.nil)
        case o57_2 =>
          go_simp
          refine hK.out _ _ trivial (fun _ => ?_)
          clear hK K
          try simp only [Act.put, List.setIfInBounds_toArray, List.set_cons_zero, List.set_cons_succ]
          refine wpAnyH_ready (rs := [3]) (by kernel_rfl) (by simp) ?_
          refine (AllReadyH.cons (List.getElem?_toArray.trans rfl) (fun K hK => ?o58_3) AllReadyH.nil)
          case o58_3 =>
            go_simp
            go_at_call 44
            refine (hN V4 hB).mono ?_
            rintro e w2 ⟨s, rfl, hb⟩
            have qR := qR.below hb
            have qB := qB.below hb
            have hB := hB.trans (hb.mono hB.size)
            have hzV : w.heap.size + 1 < w2.heap.size := qR.lt
            clear c0 c1 c2 c3 c4 c5 c6 c7 c8 c9 c10 c11
            go_wp2
            refine leaves_cons (f := 40) (args := #[.pointer (some ⟨w.heap.size, 0, none⟩), .pointer (some ⟨w.heap.size + 1, 0, none⟩)]) (by simp) (by simp [go_sem]) ?_
            refine (stepc_gone _ w.heap.size (w.heap.size + 1) w _ ⟨p, [r0, r1, r2, r3], [s0, s1, s2], [n0, n1, n2, n3]⟩ a1 c1 a2 c2 a3 c3 qB qR (by omega) (h.below hB) (by simp) (by simp) (by simp) (Nat.le_succ _) hzV hB).mono ?_
            rintro e u w3 ⟨rfl, rfl, k1, m1, k2, m2, k3, m3, qF, hG⟩
            have g0 := qF.at (x := 0) rfl
            have g1 := qF.at (x := 1) rfl
            have g2 := qF.at (x := 2) rfl
            have g3 := qF.at (x := 3) rfl
            exact ⟨.agg #[.int .i64 p, .slice k1 4 m1, .slice k2 3 m2, .slice k3 4 m3], by simp [results, Try.results12, go_sem, g0, g1, g2, g3], given_s rfl rfl rfl rfl hG⟩
      case o56_2 =>
        go_simp
        refine hK.out _ _ trivial (fun _ => ?_)
        clear hK K
        try simp only [Act.put, List.setIfInBounds_toArray, List.set_cons_zero, List.set_cons_succ]
        refine wpAnyH_ready (rs := [0, 3]) (by kernel_rfl) (by simp) ?_
        refine (AllReadyH.cons (List.getElem?_toArray.trans rfl) (fun K hK => ?o59_0) (AllReadyH.cons (List.getElem?_toArray.trans rfl) (fun K hK => ?o59_3) AllReadyH.nil))
        case o59_0 =>
          go_simp
          refine hK.out _ _ trivial (fun _ => ?_)
          clear hK K
          try simp only [Act.put, List.setIfInBounds_toArray, List.set_cons_zero, List.set_cons_succ]
          refine wpAnyH_ready (rs := [3]) (by kernel_rfl) (by simp) ?_
          refine (AllReadyH.cons (List.getElem?_toArray.trans rfl) (fun K hK => ?o60_3) AllReadyH.nil)
          case o60_3 =>
            go_simp
            go_at_call 44
            refine (hN V4 hB).mono ?_
            rintro e w2 ⟨s, rfl, hb⟩
            have qR := qR.below hb
            have qB := qB.below hb
            have hB := hB.trans (hb.mono hB.size)
            have hzV : w.heap.size + 1 < w2.heap.size := qR.lt
            clear c0 c1 c2 c3 c4 c5 c6 c7 c8 c9 c10 c11
            go_wp2
            refine leaves_cons (f := 40) (args := #[.pointer (some ⟨w.heap.size, 0, none⟩), .pointer (some ⟨w.heap.size + 1, 0, none⟩)]) (by simp) (by simp [go_sem]) ?_
            refine (stepc_gone _ w.heap.size (w.heap.size + 1) w _ ⟨p, [r0, r1, r2, r3], [s0, s1, s2], [n0, n1, n2, n3]⟩ a1 c1 a2 c2 a3 c3 qB qR (by omega) (h.below hB) (by simp) (by simp) (by simp) (Nat.le_succ _) hzV hB).mono ?_
            rintro e u w3 ⟨rfl, rfl, k1, m1, k2, m2, k3, m3, qF, hG⟩
            have g0 := qF.at (x := 0) rfl
            have g1 := qF.at (x := 1) rfl
            have g2 := qF.at (x := 2) rfl
            have g3 := qF.at (x := 3) rfl
            exact ⟨.agg #[.int .i64 p, .slice k1 4 m1, .slice k2 3 m2, .slice k3 4 m3], by simp [results, Try.results12, go_sem, g0, g1, g2, g3], given_s rfl rfl rfl rfl hG⟩
        case o59_3 =>
          go_simp
          go_at_call 44
          refine (hN V4 hB).mono ?_
          rintro e w2 ⟨s, rfl, hb⟩
          have qR := qR.below hb
          have qB := qB.below hb
          have hB := hB.trans (hb.mono hB.size)
          have hzV : w.heap.size + 1 < w2.heap.size := qR.lt
          clear c0 c1 c2 c3 c4 c5 c6 c7 c8 c9 c10 c11
          go_wp2
          refine leaves_cons (f := 40) (args := #[.pointer (some ⟨w.heap.size, 0, none⟩), .pointer (some ⟨w.heap.size + 1, 0, none⟩)]) (by simp) (by simp [go_sem]) ?_
          refine (stepc_gone _ w.heap.size (w.heap.size + 1) w _ ⟨p, [r0, r1, r2, r3], [s0, s1, s2], [n0, n1, n2, n3]⟩ a1 c1 a2 c2 a3 c3 qB qR (by omega) (h.below hB) (by simp) (by simp) (by simp) (Nat.le_succ _) hzV hB).mono ?_
          rintro e u w3 ⟨rfl, rfl, k1, m1, k2, m2, k3, m3, qF, hG⟩
          have g0 := qF.at (x := 0) rfl
          have g1 := qF.at (x := 1) rfl
          have g2 := qF.at (x := 2) rfl
          have g3 := qF.at (x := 3) rfl
          exact ⟨.agg #[.int .i64 p, .slice k1 4 m1, .slice k2 3 m2, .slice k3 4 m3], by simp [results, Try.results12, go_sem, g0, g1, g2, g3], given_s rfl rfl rfl rfl hG⟩
    case o50_2 =>
      go_simp
      refine hK.out _ _ trivial (fun _ => ?_)
      clear hK K
      try simp only [Act.put, List.setIfInBounds_toArray, List.set_cons_zero, List.set_cons_succ]
      refine wpAnyH_ready (rs := [0, 1]) (by kernel_rfl) (by simp) ?_
      refine (AllReadyH.cons (List.getElem?_toArray.trans rfl) (fun K hK => ?o61_0) (AllReadyH.cons (List.getElem?_toArray.trans rfl) (fun K hK => ?o61_1) AllReadyH.nil))
      case o61_0 =>
        go_simp
        refine hK.out _ _ trivial (fun _ => ?_)
        clear hK K
        try simp only [Act.put, List.setIfInBounds_toArray, List.set_cons_zero, List.set_cons_succ]
        refine wpAnyH_ready (rs := [1]) (by kernel_rfl) (by simp) ?_
        refine (AllReadyH.cons (List.getElem?_toArray.trans rfl) (fun K hK => ?o62_1) AllReadyH.nil)
        case o62_1 =>
          go_simp
          refine hK.out _ _ trivial (fun _ => ?_)
          clear hK K
          try simp only [Act.put, List.setIfInBounds_toArray, List.set_cons_zero, List.set_cons_succ]
          refine wpAnyH_ready (rs := [3]) (by kernel_rfl) (by simp) ?_
          refine (AllReadyH.cons (List.getElem?_toArray.trans rfl) (fun K hK => ?o63_3) AllReadyH.nil)
          case o63_3 =>
            go_simp
            go_at_call 44
            refine (hN V4 hB).mono ?_
            rintro e w2 ⟨s, rfl, hb⟩
            have qR := qR.below hb
            have qB := qB.below hb
            have hB := hB.trans (hb.mono hB.size)
            have hzV : w.heap.size + 1 < w2.heap.size := qR.lt
            clear c0 c1 c2 c3 c4 c5 c6 c7 c8 c9 c10 c11
            go_wp2
            refine leaves_cons (f := 40) (args := #[.pointer (some ⟨w.heap.size, 0, none⟩), .pointer (some ⟨w.heap.size + 1, 0, none⟩)]) (by simp) (by simp [go_sem]) ?_
            refine (stepc_gone _ w.heap.size (w.heap.size + 1) w _ ⟨p, [r0, r1, r2, r3], [s0, s1, s2], [n0, n1, n2, n3]⟩ a1 c1 a2 c2 a3 c3 qB qR (by omega) (h.below hB) (by simp) (by simp) (by simp) (Nat.le_succ _) hzV hB).mono ?_
            rintro e u w3 ⟨rfl, rfl, k1, m1, k2, m2, k3, m3, qF, hG⟩
            have g0 := qF.at (x := 0) rfl
            have g1 := qF.at (x := 1) rfl
            have g2 := qF.at (x := 2) rfl
            have g3 := qF.at (x := 3) rfl
            exact ⟨.agg #[.int .i64 p, .slice k1 4 m1, .slice k2 3 m2, .slice k3 4 m3], by simp [results, Try.results12, go_sem, g0, g1, g2, g3], given_s rfl rfl rfl rfl hG⟩
      case o61_1 =>
        go_simp
        refine hK.out _ _ trivial (fun _ => ?_)
        clear hK K
        try simp only [Act.put, List.setIfInBounds_toArray, List.set_cons_zero, List.set_cons_succ]
        refine wpAnyH_ready (rs := [0, 3]) (by kernel_rfl) (by simp) ?_
        refine (AllReadyH.cons (List.getElem?_toArray.trans rfl) (fun K hK => ?o64_0) (AllReadyH.cons (List.getElem?_toArray.trans rfl) (fun K hK => ?o64_3) AllReadyH.nil))
        case o64_0 =>
          go_simp
          refine hK.out _ _ trivial (fun _ => ?_)
          clear hK K
          try simp only [Act.put, List.setIfInBounds_toArray, List.set_cons_zero, List.set_cons_succ]
          refine wpAnyH_ready (rs := [3]) (by kernel_rfl) (by simp) ?_
          refine (AllReadyH.cons (List.getElem?_toArray.trans rfl) (fun K hK => ?o65_3) AllReadyH.nil)
          case o65_3 =>
            go_simp
            go_at_call 44
            refine (hN V4 hB).mono ?_
            rintro e w2 ⟨s, rfl, hb⟩
            have qR := qR.below hb
            have qB := qB.below hb
            have hB := hB.trans (hb.mono hB.size)
            have hzV : w.heap.size + 1 < w2.heap.size := qR.lt
            clear c0 c1 c2 c3 c4 c5 c6 c7 c8 c9 c10 c11
            go_wp2
            refine leaves_cons (f := 40) (args := #[.pointer (some ⟨w.heap.size, 0, none⟩), .pointer (some ⟨w.heap.size + 1, 0, none⟩)]) (by simp) (by simp [go_sem]) ?_
            refine (stepc_gone _ w.heap.size (w.heap.size + 1) w _ ⟨p, [r0, r1, r2, r3], [s0, s1, s2], [n0, n1, n2, n3]⟩ a1 c1 a2 c2 a3 c3 qB qR (by omega) (h.below hB) (by simp) (by simp) (by simp) (Nat.le_succ _) hzV hB).mono ?_
            rintro e u w3 ⟨rfl, rfl, k1, m1, k2, m2, k3, m3, qF, hG⟩
            have g0 := qF.at (x := 0) rfl
            have g1 := qF.at (x := 1) rfl
            have g2 := qF.at (x := 2) rfl
            have g3 := qF.at (x := 3) rfl
            exact ⟨.agg #[.int .i64 p, .slice k1 4 m1, .slice k2 3 m2, .slice k3 4 m3], by simp [results, Try.results12, go_sem, g0, g1, g2, g3], given_s rfl rfl rfl rfl hG⟩
        case o64_3 =>
          go_simp
          go_at_call 44
          refine (hN V4 hB).mono ?_
          rintro e w2 ⟨s, rfl, hb⟩
          have qR := qR.below hb
          have qB := qB.below hb
          have hB := hB.trans (hb.mono hB.size)
          have hzV : w.heap.size + 1 < w2.heap.size := qR.lt
          clear c0 c1 c2 c3 c4 c5 c6 c7 c8 c9 c10 c11
          go_wp2
          refine leaves_cons (f := 40) (args := #[.pointer (some ⟨w.heap.size, 0, none⟩), .pointer (some ⟨w.heap.size + 1, 0, none⟩)]) (by simp) (by simp [go_sem]) ?_
          refine (stepc_gone _ w.heap.size (w.heap.size + 1) w _ ⟨p, [r0, r1, r2, r3], [s0, s1, s2], [n0, n1, n2, n3]⟩ a1 c1 a2 c2 a3 c3 qB qR (by omega) (h.below hB) (by simp) (by simp) (by simp) (Nat.le_succ _) hzV hB).mono ?_
          rintro e u w3 ⟨rfl, rfl, k1, m1, k2, m2, k3, m3, qF, hG⟩
          have g0 := qF.at (x := 0) rfl
          have g1 := qF.at (x := 1) rfl
          have g2 := qF.at (x := 2) rfl
          have g3 := qF.at (x := 3) rfl
          exact ⟨.agg #[.int .i64 p, .slice k1 4 m1, .slice k2 3 m2, .slice k3 4 m3], by simp [results, Try.results12, go_sem, g0, g1, g2, g3], given_s rfl rfl rfl rfl hG⟩


set_option maxHeartbeats 4000000 in
set_option maxRecDepth 100000 in
theorem step_some (w : World) (A : Option Addr) (n c : Nat) (p r0 r1 r2 r3 s0 s1 s2 n0 n1 n2 n3 : Int) (a1 : Option Addr) (c1 : Nat) (a2 : Option Addr) (c2 : Nat) (a3 : Option Addr) (c3 : Nat) (h : St w ⟨p, [r0, r1, r2, r3], [s0, s1, s2], [n0, n1, n2, n3]⟩ a1 c1 a2 c2 a3 c3) (hs : stateB ⟨p, [r0, r1, r2, r3], [s0, s1, s2], [n0, n1, n2, n3]⟩ = true) (v : Int) (o : TOp) (Q : TState)
    (hN : ∀ W : World, Below w.heap.size w W → Calls Try.prog 44 #[.agg #[.int .i64 p, .int .i64 r0, .int .i64 r1, .int .i64 r2, .int .i64 r3, .int .i64 s0, .int .i64 s1, .int .i64 s2, .int .i64 n0, .int .i64 n1, .int .i64 n2, .int .i64 n3], .slice A n c] W fun e w' => e = .returned (.agg #[.int .i64 o.f0, .int .i64 o.f1, .int .i64 o.f2, .int .i64 o.f3]) ∧ Below W.heap.size W w')
    (hAf : ∀ W : World, Calls Try.prog 43 #[.agg #[.int .i64 p, .int .i64 r0, .int .i64 r1, .int .i64 r2, .int .i64 r3, .int .i64 s0, .int .i64 s1, .int .i64 s2, .int .i64 n0, .int .i64 n1, .int .i64 n2, .int .i64 n3], .agg #[.int .i64 o.f0, .int .i64 o.f1, .int .i64 o.f2, .int .i64 o.f3], .int .i64 v] W fun e w' => ∃ (q x0 x1 x2 x3 y0 y1 y2 z0 z1 z2 z3 : Int), Q = ⟨q, [x0, x1, x2, x3], [y0, y1, y2], [z0, z1, z2, z3]⟩ ∧ cellsB 4 [x0, x1, x2, x3] = true ∧ cellsB 3 [y0, y1, y2] = true ∧ cellsB 4 [z0, z1, z2, z3] = true ∧ e = .returned (.agg #[.int .i64 q, .int .i64 x0, .int .i64 x1, .int .i64 x2, .int .i64 x3, .int .i64 y0, .int .i64 y1, .int .i64 y2, .int .i64 z0, .int .i64 z1, .int .i64 z2, .int .i64 z3]) ∧ Below W.heap.size W w') :
    Calls Try.prog 12 #[.slice A n c, .agg #[.int .i64 p, .slice a1 4 c1, .slice a2 3 c2, .slice a3 4 c3], .int .i64 v] w (GivenS w Q) := by
  obtain ⟨W, hWW⟩ : ∃ Z, (w.alloc (.cells #[.int .i64 p, .slice a1 4 c1, .slice a2 3 c2, .slice a3 4 c3] 27)).alloc (.cells #[.int .i64 0, .slice none 0 0, .slice none 0 0, .slice none 0 0] 27) = Z := ⟨_, rfl⟩
  have qB : Blk 27 w.heap.size [.int .i64 p, .slice a1 4 c1, .slice a2 3 c2, .slice a3 4 c3] W := by rw [← hWW]; exact (Blk.new _ [.int .i64 p, .slice a1 4 c1, .slice a2 3 c2, .slice a3 4 c3] w).alloc _
  have qR : Blk 27 (w.heap.size + 1) [.int .i64 0, .slice none 0 0, .slice none 0 0, .slice none 0 0] W := by
    have := Blk.new 27 [.int .i64 0, .slice none 0 0, .slice none 0 0, .slice none 0 0] (w.alloc (.cells #[.int .i64 p, .slice a1 4 c1, .slice a2 3 c2, .slice a3 4 c3] 27))
    rw [gsize_alloc] at this
    rw [← hWW]; exact this
  have hB : Below w.heap.size w W := by rw [← hWW]; exact ((Below.refl _ _).alloc (Nat.le_refl _) _).alloc (by rw [gsize_alloc]; omega) _
  have hz : w.heap.size + 2 ≤ W.heap.size := qR.lt
  have hmf : ∀ (fn : Fn) (first cap : Array Value) (w : World), (Instr.makeFunc fn first cap).run Try.prog w = .ok (.func fn first cap) w := fun _ _ _ _ => rfl
  have hM := machine_yes W p r0 r1 r2 r3 s0 s1 s2 n0 n1 n2 n3 a1 c1 a2 c2 a3 c3 (h.below hB) hs
  have x0 : W.cell? ⟨w.heap.size, 0, none⟩ = some (.int .i64 p) := qB.at rfl
  have x1 : W.cell? ⟨w.heap.size, 1, none⟩ = some (.slice a1 4 c1) := qB.at rfl
  have x2 : W.cell? ⟨w.heap.size, 2, none⟩ = some (.slice a2 3 c2) := qB.at rfl
  have x3 : W.cell? ⟨w.heap.size, 3, none⟩ = some (.slice a3 4 c3) := qB.at rfl
  have HW := Lib.hid hWW
  clear hWW
  go_enter_defers Try.func12, Try.ntmps12
  go_upto_region 2 with fail
  try rw [HW.out]
  go_wp2_with fail
  go_at_call 42
  refine hM.mono ?_
  rintro e w1 ⟨rfl, hb1⟩
  have qR := qR.below hb1
  have qB := qB.below hb1
  have hB := hB.trans (hb1.mono hB.size)
  have hz := Nat.le_trans hz hb1.size
  clear x0 x1 x2 x3 hM hb1
  obtain ⟨W2, hW2⟩ : ∃ Z, w1.alloc (.cells #[.int .i64 0, .int .i64 0, .int .i64 0, .int .i64 0, .int .i64 0, .int .i64 0, .int .i64 0, .int .i64 0, .int .i64 0, .int .i64 0, .int .i64 0, .int .i64 0] 67) = Z := ⟨_, rfl⟩
  obtain ⟨b2, hb2⟩ : ∃ b, w1.heap.size = b := ⟨_, rfl⟩
  have qM : Blk 67 b2 [.int .i64 0, .int .i64 0, .int .i64 0, .int .i64 0, .int .i64 0, .int .i64 0, .int .i64 0, .int .i64 0, .int .i64 0, .int .i64 0, .int .i64 0, .int .i64 0] W2 := by rw [← hW2, ← hb2]; exact Blk.new _ [.int .i64 0, .int .i64 0, .int .i64 0, .int .i64 0, .int .i64 0, .int .i64 0, .int .i64 0, .int .i64 0, .int .i64 0, .int .i64 0, .int .i64 0, .int .i64 0] w1
  have hA : Below w1.heap.size w1 W2 := by rw [← hW2]; exact (Below.refl _ _).alloc (Nat.le_refl _) _
  have qR := qR.below hA
  have qB := qB.below hA
  have hB := hB.trans (hA.mono hB.size)
  have hb2w : w.heap.size + 2 ≤ b2 := by omega
  have hb2l := qM.lt
  have z0 : W2.cell? ⟨b2, 0, none⟩ = some (.int .i64 0) := qM.at rfl
  have f0 := qM.free 0
  have z1 : W2.cell? ⟨b2, 1, none⟩ = some (.int .i64 0) := qM.at rfl
  have f1 := qM.free 1
  have z2 : W2.cell? ⟨b2, 2, none⟩ = some (.int .i64 0) := qM.at rfl
  have f2 := qM.free 2
  have z3 : W2.cell? ⟨b2, 3, none⟩ = some (.int .i64 0) := qM.at rfl
  have f3 := qM.free 3
  have z4 : W2.cell? ⟨b2, 4, none⟩ = some (.int .i64 0) := qM.at rfl
  have f4 := qM.free 4
  have z5 : W2.cell? ⟨b2, 5, none⟩ = some (.int .i64 0) := qM.at rfl
  have f5 := qM.free 5
  have z6 : W2.cell? ⟨b2, 6, none⟩ = some (.int .i64 0) := qM.at rfl
  have f6 := qM.free 6
  have z7 : W2.cell? ⟨b2, 7, none⟩ = some (.int .i64 0) := qM.at rfl
  have f7 := qM.free 7
  have z8 : W2.cell? ⟨b2, 8, none⟩ = some (.int .i64 0) := qM.at rfl
  have f8 := qM.free 8
  have z9 : W2.cell? ⟨b2, 9, none⟩ = some (.int .i64 0) := qM.at rfl
  have f9 := qM.free 9
  have z10 : W2.cell? ⟨b2, 10, none⟩ = some (.int .i64 0) := qM.at rfl
  have f10 := qM.free 10
  have z11 : W2.cell? ⟨b2, 11, none⟩ = some (.int .i64 0) := qM.at rfl
  have f11 := qM.free 11
  obtain ⟨VF, hVF, qF, hsF, hkp, hF⟩ := put12 (w := w) (B := w.heap.size) (b := b2) (w1 := W2) (v0 := .int .i64 p) (v1 := .int .i64 r0) (v2 := .int .i64 r1) (v3 := .int .i64 r2) (v4 := .int .i64 r3) (v5 := .int .i64 s0) (v6 := .int .i64 s1) (v7 := .int .i64 s2) (v8 := .int .i64 n0) (v9 := .int .i64 n1) (v10 := .int .i64 n2) (v11 := .int .i64 n3) qM (by omega) hB
  clear hA
  go_upto_region 3 with fail
  try rw [hVF]
  clear hVF hW2 hb2 qM z0 f0 z1 f1 z2 f2 z3 f3 z4 f4 z5 f5 z6 f6 z7 f7 z8 f8 z9 f9 z10 f10 z11 f11
  have qR := Blk.far qR (hkp _ (by omega))
  have qB := Blk.far qB (hkp _ (by omega))
  have hB := hF
  have hz : b2 + 1 ≤ VF.heap.size := by omega
  clear hsF hkp hF
  obtain ⟨V4, hV4⟩ : ∃ V4, VF.drew = V4 := ⟨_, rfl⟩
  have qM := qF.drew
  have qR := qR.drew
  have qB := qB.drew
  have hB := gbelow_drewN hB 1
  rw [hV4] at qM qR qB
  replace hB : Below w.heap.size w V4 := by rw [← hV4]; exact hB
  replace hz : b2 + 1 ≤ V4.heap.size := by rw [← hV4]; exact hz
  have s9 : V4.cell? ⟨b2, 0, none⟩ = some (.int .i64 p) ∧ V4.cell? ⟨b2, 1, none⟩ = some (.int .i64 r0) ∧ V4.cell? ⟨b2, 2, none⟩ = some (.int .i64 r1) ∧ V4.cell? ⟨b2, 3, none⟩ = some (.int .i64 r2) ∧ V4.cell? ⟨b2, 4, none⟩ = some (.int .i64 r3) ∧ V4.cell? ⟨b2, 5, none⟩ = some (.int .i64 s0) ∧ V4.cell? ⟨b2, 6, none⟩ = some (.int .i64 s1) ∧ V4.cell? ⟨b2, 7, none⟩ = some (.int .i64 s2) ∧ V4.cell? ⟨b2, 8, none⟩ = some (.int .i64 n0) ∧ V4.cell? ⟨b2, 9, none⟩ = some (.int .i64 n1) ∧ V4.cell? ⟨b2, 10, none⟩ = some (.int .i64 n2) ∧ V4.cell? ⟨b2, 11, none⟩ = some (.int .i64 n3) := ⟨qM.at rfl, qM.at rfl, qM.at rfl, qM.at rfl, qM.at rfl, qM.at rfl, qM.at rfl, qM.at rfl, qM.at rfl, qM.at rfl, qM.at rfl, qM.at rfl⟩
  refine wp_region_noPanic ?_
  refine wp_region_held_drew (S := (fun w' => w'.cell? ⟨b2, 0, none⟩ = some (.int .i64 p) ∧ w'.cell? ⟨b2, 1, none⟩ = some (.int .i64 r0) ∧ w'.cell? ⟨b2, 2, none⟩ = some (.int .i64 r1) ∧ w'.cell? ⟨b2, 3, none⟩ = some (.int .i64 r2) ∧ w'.cell? ⟨b2, 4, none⟩ = some (.int .i64 r3) ∧ w'.cell? ⟨b2, 5, none⟩ = some (.int .i64 s0) ∧ w'.cell? ⟨b2, 6, none⟩ = some (.int .i64 s1) ∧ w'.cell? ⟨b2, 7, none⟩ = some (.int .i64 s2) ∧ w'.cell? ⟨b2, 8, none⟩ = some (.int .i64 n0) ∧ w'.cell? ⟨b2, 9, none⟩ = some (.int .i64 n1) ∧ w'.cell? ⟨b2, 10, none⟩ = some (.int .i64 n2) ∧ w'.cell? ⟨b2, 11, none⟩ = some (.int .i64 n3))) (by kernel_rfl) (by rw [hV4]; exact s9) (fun hHeld => ?_)
  rw [hV4]
  clear hV4
  refine wpAnyH_take (i := 0) (v := ?vy0) (List.getElem?_toArray.trans rfl) (by kernel_rfl) (by kernel_rfl) (by kernel_rfl) (fun _ _ _ h => h) (Or.inl ⟨by rfl, ?yy0⟩) (by assumption) ?ry0
  case yy0 => (intro w hSw; (try dsimp only at hSw); go_simp; try with_reducible rfl)
  try simp only [Act.put, List.setIfInBounds_toArray, List.set_cons_zero, List.set_cons_succ]
  refine wpAnyH_take (i := 1) (v := ?vy1) (List.getElem?_toArray.trans rfl) (by kernel_rfl) (by kernel_rfl) (by kernel_rfl) (fun _ _ _ h => h) (Or.inl ⟨by rfl, ?yy1⟩) (by assumption) ?ry1
  case yy1 => (intro w hSw; (try dsimp only at hSw); go_simp; try with_reducible rfl)
  try simp only [Act.put, List.setIfInBounds_toArray, List.set_cons_zero, List.set_cons_succ]
  refine wpAnyH_take (i := 2) (v := ?vy2) (List.getElem?_toArray.trans rfl) (by kernel_rfl) (by kernel_rfl) (by kernel_rfl) (fun _ _ _ h => h) (Or.inl ⟨by rfl, ?yy2⟩) (by assumption) ?ry2
  case yy2 => (intro w hSw; (try dsimp only at hSw); go_simp; try with_reducible rfl)
  try simp only [Act.put, List.setIfInBounds_toArray, List.set_cons_zero, List.set_cons_succ]
  refine wpAnyH_take (i := 4) (v := ?vy4) (List.getElem?_toArray.trans rfl) (by kernel_rfl) (by kernel_rfl) (by kernel_rfl) (fun _ _ _ h => h) (Or.inl ⟨by rfl, ?yy4⟩) (by assumption) ?ry4
  case yy4 => (intro w hSw; (try dsimp only at hSw); go_simp; try with_reducible rfl)
  try simp only [Act.put, List.setIfInBounds_toArray, List.set_cons_zero, List.set_cons_succ]
  refine wpAnyH_ready (rs := [3]) (by kernel_rfl) (by simp) ?_
  refine AllReadyH.cons (List.getElem?_toArray.trans rfl) (fun K hK => ?_) AllReadyH.nil
  go_simp
  go_at_call 44
  refine (hN V4 hB).mono ?_
  rintro e w2 ⟨rfl, hb⟩
  have qR := qR.below hb
  have qM := qM.below hb
  have qB := qB.below hb
  have hB := hB.trans (hb.mono hB.size)
  have hz := Nat.le_trans hz hb.size
  clear hb
  have s9 : w2.cell? ⟨b2, 0, none⟩ = some (.int .i64 p) ∧ w2.cell? ⟨b2, 1, none⟩ = some (.int .i64 r0) ∧ w2.cell? ⟨b2, 2, none⟩ = some (.int .i64 r1) ∧ w2.cell? ⟨b2, 3, none⟩ = some (.int .i64 r2) ∧ w2.cell? ⟨b2, 4, none⟩ = some (.int .i64 r3) ∧ w2.cell? ⟨b2, 5, none⟩ = some (.int .i64 s0) ∧ w2.cell? ⟨b2, 6, none⟩ = some (.int .i64 s1) ∧ w2.cell? ⟨b2, 7, none⟩ = some (.int .i64 s2) ∧ w2.cell? ⟨b2, 8, none⟩ = some (.int .i64 n0) ∧ w2.cell? ⟨b2, 9, none⟩ = some (.int .i64 n1) ∧ w2.cell? ⟨b2, 10, none⟩ = some (.int .i64 n2) ∧ w2.cell? ⟨b2, 11, none⟩ = some (.int .i64 n3) := ⟨qM.at rfl, qM.at rfl, qM.at rfl, qM.at rfl, qM.at rfl, qM.at rfl, qM.at rfl, qM.at rfl, qM.at rfl, qM.at rfl, qM.at rfl, qM.at rfl⟩
  refine hK.out _ _ s9 (fun hHeld => ?_)
  clear hK K
  try simp only [Act.put, List.setIfInBounds_toArray, List.set_cons_zero, List.set_cons_succ]
  refine wpAnyH_ready (rs := [5]) (by kernel_rfl) (by simp) ?_
  refine AllReadyH.cons (List.getElem?_toArray.trans rfl) (fun K hK => ?_) AllReadyH.nil
  go_simp
  go_at_call 43
  refine (hAf w2).mono ?_
  rintro e w3 ⟨q, x0, x1, x2, x3, y0, y1, y2, z0, z1, z2, z3, hE, kc1, kc2, kc3, rfl, hb⟩
  have qR := qR.below hb
  have qM := qM.below hb
  have qB := qB.below hb
  have hB := hB.trans (hb.mono hB.size)
  have hz := Nat.le_trans hz hb.size
  clear hb
  have s9 : w3.cell? ⟨b2, 0, none⟩ = some (.int .i64 p) ∧ w3.cell? ⟨b2, 1, none⟩ = some (.int .i64 r0) ∧ w3.cell? ⟨b2, 2, none⟩ = some (.int .i64 r1) ∧ w3.cell? ⟨b2, 3, none⟩ = some (.int .i64 r2) ∧ w3.cell? ⟨b2, 4, none⟩ = some (.int .i64 r3) ∧ w3.cell? ⟨b2, 5, none⟩ = some (.int .i64 s0) ∧ w3.cell? ⟨b2, 6, none⟩ = some (.int .i64 s1) ∧ w3.cell? ⟨b2, 7, none⟩ = some (.int .i64 s2) ∧ w3.cell? ⟨b2, 8, none⟩ = some (.int .i64 n0) ∧ w3.cell? ⟨b2, 9, none⟩ = some (.int .i64 n1) ∧ w3.cell? ⟨b2, 10, none⟩ = some (.int .i64 n2) ∧ w3.cell? ⟨b2, 11, none⟩ = some (.int .i64 n3) := ⟨qM.at rfl, qM.at rfl, qM.at rfl, qM.at rfl, qM.at rfl, qM.at rfl, qM.at rfl, qM.at rfl, qM.at rfl, qM.at rfl, qM.at rfl, qM.at rfl⟩
  refine hK.out _ _ s9 (fun hHeld => ?_)
  clear hK K
  try simp only [Act.put, List.setIfInBounds_toArray, List.set_cons_zero, List.set_cons_succ]
  refine wpAnyH_ready (rs := [6]) (by kernel_rfl) (by simp) ?_
  refine AllReadyH.cons (List.getElem?_toArray.trans rfl) (fun K hK => ?_) AllReadyH.nil
  go_simp
  go_at_call 45
  refine (state_m w3 q x0 x1 x2 x3 y0 y1 y2 z0 z1 z2 z3 kc1 kc2 kc3).mono ?_
  intro e w4 hg
  obtain ⟨k1, m1, S1, k2, m2, S2, k3, m3, S3, rfl, o1, o2, o3, u1, u2, u3, f12, f13, f23, hb⟩ := given_n (z := q) (n1 := 4) (n2 := 3) (n3 := 4) rfl rfl rfl rfl hg
  clear hg
  have hzR : w.heap.size + 1 < w3.heap.size := qR.lt
  have qR := qR.below hb
  have qM := qM.below hb
  have qB := qB.below hb
  have hB := hB.trans (hb.mono hB.size)
  have hz := Nat.le_trans hz hb.size
  have s9 : w4.cell? ⟨b2, 0, none⟩ = some (.int .i64 p) ∧ w4.cell? ⟨b2, 1, none⟩ = some (.int .i64 r0) ∧ w4.cell? ⟨b2, 2, none⟩ = some (.int .i64 r1) ∧ w4.cell? ⟨b2, 3, none⟩ = some (.int .i64 r2) ∧ w4.cell? ⟨b2, 4, none⟩ = some (.int .i64 r3) ∧ w4.cell? ⟨b2, 5, none⟩ = some (.int .i64 s0) ∧ w4.cell? ⟨b2, 6, none⟩ = some (.int .i64 s1) ∧ w4.cell? ⟨b2, 7, none⟩ = some (.int .i64 s2) ∧ w4.cell? ⟨b2, 8, none⟩ = some (.int .i64 n0) ∧ w4.cell? ⟨b2, 9, none⟩ = some (.int .i64 n1) ∧ w4.cell? ⟨b2, 10, none⟩ = some (.int .i64 n2) ∧ w4.cell? ⟨b2, 11, none⟩ = some (.int .i64 n3) := ⟨qM.at rfl, qM.at rfl, qM.at rfl, qM.at rfl, qM.at rfl, qM.at rfl, qM.at rfl, qM.at rfl, qM.at rfl, qM.at rfl, qM.at rfl, qM.at rfl⟩
  refine hK.out _ _ s9 (fun hHeld => ?_)
  clear hK K
  try simp only [Act.put, List.setIfInBounds_toArray, List.set_cons_zero, List.set_cons_succ]
  refine wpAnyH_ready (rs := [7]) (by kernel_rfl) (by simp) ?_
  refine AllReadyH.cons (List.getElem?_toArray.trans rfl) (fun K hK => ?_) AllReadyH.nil
  have Z0 : w4.cell? ⟨w.heap.size + 1, 0, none⟩ = some (.int .i64 0) := qR.at rfl
  have f0 := qR.free 0
  have Z1 : w4.cell? ⟨w.heap.size + 1, 1, none⟩ = some (.slice none 0 0) := qR.at rfl
  have f1 := qR.free 1
  have Z2 : w4.cell? ⟨w.heap.size + 1, 2, none⟩ = some (.slice none 0 0) := qR.at rfl
  have f2 := qR.free 2
  have Z3 : w4.cell? ⟨w.heap.size + 1, 3, none⟩ = some (.slice none 0 0) := qR.at rfl
  have f3 := qR.free 3
  obtain ⟨V, hV, qF, hsV, hkV, hF, hG⟩ := put_back (w := w) (W := w3) (R := ⟨q, [x0, x1, x2, x3], [y0, y1, y2], [z0, z1, z2, z3]⟩) (z := q) qR o1 o2 o3 u1 u2 u3 f12 f13 f23 (Nat.le_succ _) hzR hB
  go_simp
  try rw [hV]
  have qM := Blk.far qM (hkV _ (by omega))
  have s9 : V.cell? ⟨b2, 0, none⟩ = some (.int .i64 p) ∧ V.cell? ⟨b2, 1, none⟩ = some (.int .i64 r0) ∧ V.cell? ⟨b2, 2, none⟩ = some (.int .i64 r1) ∧ V.cell? ⟨b2, 3, none⟩ = some (.int .i64 r2) ∧ V.cell? ⟨b2, 4, none⟩ = some (.int .i64 r3) ∧ V.cell? ⟨b2, 5, none⟩ = some (.int .i64 s0) ∧ V.cell? ⟨b2, 6, none⟩ = some (.int .i64 s1) ∧ V.cell? ⟨b2, 7, none⟩ = some (.int .i64 s2) ∧ V.cell? ⟨b2, 8, none⟩ = some (.int .i64 n0) ∧ V.cell? ⟨b2, 9, none⟩ = some (.int .i64 n1) ∧ V.cell? ⟨b2, 10, none⟩ = some (.int .i64 n2) ∧ V.cell? ⟨b2, 11, none⟩ = some (.int .i64 n3) := ⟨qM.at rfl, qM.at rfl, qM.at rfl, qM.at rfl, qM.at rfl, qM.at rfl, qM.at rfl, qM.at rfl, qM.at rfl, qM.at rfl, qM.at rfl, qM.at rfl⟩
  clear hV hkV hsV hB o1 o2 o3 qR
  refine hK.out _ _ s9 (fun hHeld => ?_)
  clear hK K
  try simp only [Act.put, List.setIfInBounds_toArray, List.set_cons_zero, List.set_cons_succ]
  refine wpAnyH_done (by kernel_rfl) ?_ _
  refine NoPanic.normal ?_
  clear s9
  have hE2 := Lib.hid hE
  have HG := Lib.hid hG
  have g0 := qF.at (x := 0) rfl
  have g1 := qF.at (x := 1) rfl
  have g2 := qF.at (x := 2) rfl
  have g3 := qF.at (x := 3) rfl
  clear hE hG
  go_wp2
  refine leaves_cons (f := 40) (args := #[.pointer (some ⟨w.heap.size, 0, none⟩), .pointer (some ⟨w.heap.size + 1, 0, none⟩)]) (by simp) (by simp [go_sem]) ?_
  refine (stepc_idle _ _ _).mono ?_
  rintro e u w5 ⟨rfl, rfl, hw⟩
  rw [hw]
  exact ⟨.agg #[.int .i64 q, .slice k1 4 m1, .slice k2 3 m2, .slice k3 4 m3], by simp [results, Try.results12, go_sem, g0, g1, g2, g3], by rw [hE2.out]; exact given_s rfl rfl rfl rfl HG.out⟩

theorem step_impl (lo hi : Nat) (w : World) (A : Option Addr) (c : Nat) (l : List TOp) (hl : Lies lo hi w (dOp l) (.slice A l.length c)) (hh : hi ≤ w.heap.size) (hm : l.length ≤ 1048576) (P : TState) (a1 : Option Addr) (c1 : Nat) (a2 : Option Addr) (c2 : Nat) (a3 : Option Addr) (c3 : Nat) (h : St w P a1 c1 a2 c2 a3 c3) (hm1 : P.f1.length ≤ 1048576) (hm2 : P.f2.length ≤ 1048576) (hm3 : P.f3.length ≤ 1048576) (v : Int) :
    Calls Try.prog 12 #[.slice A l.length c, .agg #[.int .i64 P.f0, .slice a1 P.f1.length c1, .slice a2 P.f2.length c2, .slice a3 P.f3.length c3], .int .i64 v] w (GivenS w (Mach.step l P v)) := by
  cases hs : stateB P with
  | false =>
    rw [step_no (by unfold canB; rw [hs]; simp)]
    exact step_bad w A l.length c P a1 c1 a2 c2 a3 c3 h hm1 hm2 hm3 hs v
  | true =>
    obtain ⟨hc1, hc2, hc3, hp0, hp19⟩ := state_at hs
    have l1 : P.f1.length = 4 := by have := (cellsB_at hc1).1; omega
    have l2 : P.f2.length = 3 := by have := (cellsB_at hc2).1; omega
    have l3 : P.f3.length = 4 := by have := (cellsB_at hc3).1; omega
    obtain ⟨p, f1, f2, f3⟩ := P
    dsimp only at l1 l2 l3 hp0 hp19
    obtain ⟨r0, r1, r2, r3, rfl⟩ := four l1
    obtain ⟨s0, s1, s2, rfl⟩ := three l2
    obtain ⟨n0, n1, n2, n3, rfl⟩ := four l3
    have hno : ∀ W : World, Below w.heap.size w W → (scriptB l = false ∨ (l.length : Int) ≤ p) → _ := fun W hb hx => step_of_no lo hi W A c l (hl.below hb) (Nat.le_trans hh hb.size) hm p r0 r1 r2 r3 s0 s1 s2 n0 n1 n2 n3 hx
    by_cases hx : scriptB l = false ∨ (l.length : Int) ≤ p
    · have hcan : canB l ⟨p, [r0, r1, r2, r3], [s0, s1, s2], [n0, n1, n2, n3]⟩ = false := by
        unfold canB
        rcases hx with hx | hx
        · rw [hx]; rfl
        · rw [decide_eq_false (by dsimp only; omega)]; simp
      rw [step_no hcan]
      exact step_none w A l.length c p r0 r1 r2 r3 s0 s1 s2 n0 n1 n2 n3 a1 c1 a2 c2 a3 c3 h hs v (fun W hb => hno W hb hx)
    · have hsc : scriptB l = true := by cases e : scriptB l with
        | true => rfl
        | false => exact absurd (Or.inl e) hx
      have hlt : p < (l.length : Int) := by
        rcases Int.lt_or_le p (l.length : Int) with e | e
        · exact e
        · exact absurd (Or.inr e) hx
      have hcan : canB l ⟨p, [r0, r1, r2, r3], [s0, s1, s2], [n0, n1, n2, n3]⟩ = true := by unfold canB; rw [hsc, hs, decide_eq_true (by dsimp only; exact hlt)]; rfl
      have hok := (op_at hcan).1
      have hsy := (step_yes hcan v).1
      have hst : Mach.step l ⟨p, [r0, r1, r2, r3], [s0, s1, s2], [n0, n1, n2, n3]⟩ v = stepped (opAt l ⟨p, [r0, r1, r2, r3], [s0, s1, s2], [n0, n1, n2, n3]⟩) ⟨p, [r0, r1, r2, r3], [s0, s1, s2], [n0, n1, n2, n3]⟩ v := by unfold Mach.step; rw [if_pos hcan]
      have hr : ∀ i, 0 ≤ [r0, r1, r2, r3].getD i 0 ∧ [r0, r1, r2, r3].getD i 0 ≤ 999 := fun i => by
        rcases Nat.lt_or_ge i 4 with e | e
        · exact cellsB_get hc1 (j := i) e
        · rw [List.getD_eq_getElem?_getD, List.getElem?_eq_none (by simpa using e)]; simp
      refine step_some w A l.length c p r0 r1 r2 r3 s0 s1 s2 n0 n1 n2 n3 a1 c1 a2 c2 a3 c3 h hs v (opAt l ⟨p, [r0, r1, r2, r3], [s0, s1, s2], [n0, n1, n2, n3]⟩) _
        (fun W hb => step_of_yes lo hi W A c l (hl.below hb) (Nat.le_trans hh hb.size) hm p r0 r1 r2 r3 s0 s1 s2 n0 n1 n2 n3 hsc hp0 hlt _ rfl)
        (fun W => (after_impl W p r0 r1 r2 r3 s0 s1 s2 n0 n1 n2 n3 (opAt l ⟨p, [r0, r1, r2, r3], [s0, s1, s2], [n0, n1, n2, n3]⟩) v hp0 (by omega) hr hok).mono ?_)
      rintro e w' ⟨q, x0, x1, x2, x3, y0, y1, y2, z0, z1, z2, z3, hE, rfl, hb⟩
      have hq : Mach.step l ⟨p, [r0, r1, r2, r3], [s0, s1, s2], [n0, n1, n2, n3]⟩ v = ⟨q, [x0, x1, x2, x3], [y0, y1, y2], [z0, z1, z2, z3]⟩ := hst.trans hE
      rw [hq] at hsy
      obtain ⟨k1, k2, k3, _, _⟩ := state_at hsy
      exact ⟨q, x0, x1, x2, x3, y0, y1, y2, z0, z1, z2, z3, hq, k1, k2, k3, rfl, hb⟩
end Go.Proofs.Ytbohkohccnieiaa.Mach
