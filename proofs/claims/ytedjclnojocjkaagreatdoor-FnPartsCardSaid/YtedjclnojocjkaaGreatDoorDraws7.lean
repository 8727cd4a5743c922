/-
  The draws of a list of parts and a resource, and of two lists of parts.
  Conditions: the bytes are in memory.
-/
import Derived.Test.YtedjclnojocjkaaGreatDoorDrawPts
import Derived.Deep.RegionHeld3
import Derived.Deep.CutBlock
import Derived.Deep.DeepCutAuto
namespace Go.Proofs.YtedjclnojocjkaaGreatDoor.Draw
open Go Go.RowKit Go.Proofs.YtedjclnojocjkaaGreatDoor.Mem Go.Proofs.YtedjclnojocjkaaGreatDoor.Adr Go.Proofs.YtedjclnojocjkaaGreatDoor.Res Go.Proofs.YtedjclnojocjkaaGreatDoor.Parts

theorem laidP {lo hi lo' hi' n : Nat} {w W : World} {a : Option Addr} {l : List Prt} (h : PRow lo hi w a n l) (hz : Zone lo' hi' w W) (hd : hi ≤ lo' ∨ hi' ≤ lo) (hs : W.heap.size = w.heap.size) (hh : hi ≤ w.heap.size) : PRow 0 W.drew.heap.size W.drew a n l :=
  ((h.zone hz hd).more (Nat.zero_le _) (by rw [← hs] at hh; exact hh)).drewN 1
theorem laidR {k : IntKind} {lo hi lo' hi' n : Nat} {w W : World} {a : Option Addr} {zs : List Int} (h : Row k lo hi w a n zs) (hz : Zone lo' hi' w W) (hd : hi ≤ lo' ∨ hi' ≤ lo) (hs : W.heap.size = w.heap.size) (hh : hi ≤ w.heap.size) : Row k 0 W.drew.heap.size W.drew a n zs :=
  ((h.zone hz hd).more (Nat.zero_le _) (by rw [← hs] at hh; exact hh)).drewN 1

/-- A list of parts and a resource, drawn. -/
def DrawnPut (w : World) (e : Ending) (w' : World) : Prop :=
  ∃ (a : Option Addr) (n c : Nat) (l : List Prt) (k h p q : Int) (a' : Option Addr) (n' c' : Nat) (zs : List Int), e = .returned (.tuple #[.slice a n c, (Value.agg #[Value.int IntKind.i64 (k), Value.slice (a') (n') (c'), Value.int IntKind.i64 (h), Value.int IntKind.i64 (p), Value.int IntKind.i64 (q)])]) ∧ PRow 0 w'.heap.size w' a n l ∧ room l ≤ 64 ∧ Row .i64 0 w'.heap.size w' a' n' zs ∧ n' ≤ 64 ∧ n' ≤ c' ∧ c' ≤ maxLen ∧ Wf k ∧ Wf h ∧ Wf p ∧ Wf q ∧ Below w.heap.size w w'

set_option maxHeartbeats 4000000 in
set_option maxRecDepth 100000 in
theorem draw_put (B : Nat) (a : Option Addr) (n c : Nat) (w : World) (hb : Bytes B w a n) (hB : B ≤ w.heap.size) :
    Calls Tryz.prog 6 #[.slice a n c] w (DrawnPut w) := by
  have qR := Quint.new 29 (.int .i64 0) (.slice none 0 0) (.int .i64 0) (.int .i64 0) (.int .i64 0) w
  have hb0 : Below w.heap.size w (w.alloc (.cells #[.int .i64 0, .slice none 0 0, .int .i64 0, .int .i64 0, .int .i64 0] 29)) := (Below.refl _ _).alloc (Nat.le_refl _) _
  go_enter Tryz.func6, Tryz.ntmps6
  go_wp2_with fail
  go_at_call 30
  refine (new_any B a n c _ (hb.below hb0) (by simp; omega)).mono ?_
  rintro e w1 ⟨rfl, hc1, hb1⟩
  have qR1 := qR.below hb1
  have hB1 := hb0.trans (hb1.mono hb0.size)
  have hs1 := hc1.lt
  rw [size_alloc] at hc1 hs1
  clear hb hb0 hb1 qR
  go_wp2_with fail
  go_at_call 31
  refine (any7 B _ _ hc1).mono ?_
  rintro e w2 ⟨a1, n1, c1, l, rfl, hpr, hrm, hc2, ho2⟩
  have qR2 := quint_only qR1 ho2 (by omega)
  have hB2 := hB1.trans (ho2.below (B := w.heap.size) (by omega) hB1.size)
  have hs2 := ho2.size
  have hl := hpr.len
  have hrq := room_eq l
  have hbz : ∀ i, i < n1 → (pt l i).zs.length ≤ 64 := fun i hi => by
    have h3 := bodies_take l i (by omega)
    have h4 := bodies_le l (i + 1)
    omega
  have hn1 : n1 ≤ 64 := by omega
  clear qR1 hB1 ho2 hc1 hl hrq
  go_wp2_with fail
  go_at_call 32
  refine (any5 B _ _ hc2).mono ?_
  rintro e w3 ⟨k, h, q, r, a2, n2, c2, zs, hk, hh, hq, hr, rfl, hvz, hn2, hgd, hc3, ho3⟩
  obtain ⟨row3, hzc, hzm⟩ := ownR hvz hgd
  have hs3 := ho3.size
  have hA : Below w3.heap.size w3 (w3.alloc (.cells #[.int .i64 k, .slice a2 n2 c2, .int .i64 h, .int .i64 q, .int .i64 r] 29)) := (Below.refl _ _).alloc (Nat.le_refl _) _
  have qV : Quint 29 w3.heap.size (.int .i64 k) (.slice a2 n2 c2) (.int .i64 h) (.int .i64 q) (.int .i64 r) (w3.alloc (.cells #[.int .i64 k, .slice a2 n2 c2, .int .i64 h, .int .i64 q, .int .i64 r] 29)) := Quint.new _ _ _ _ _ _ _
  have hsW : (w3.alloc (.cells #[.int .i64 k, .slice a2 n2 c2, .int .i64 h, .int .i64 q, .int .i64 r] 29)).heap.size = w3.heap.size + 1 := size_alloc _ _
  have qR := (quint_only qR2 ho3 (by omega)).below hA
  have hpr := (hpr.on ho3 (by omega)).below hA
  have row := row3.below hA
  have hcW := hc3.below hA
  have hB := (hB2.trans (ho3.below (B := w.heap.size) (by omega) hB2.size)).trans (hA.mono (by omega))
  clear hA qR2 row3 hc3 hB2 ho3 hvz hc2

  by_cases hn0 : 0 < n1
  rotate_left
  · have hd : decide ((n1 : Int) > 0) = false := by simp; omega
    have hd2 : decide ((0 : Int) < (n1 : Int)) = false := by simp; omega
    have hpz : w2.heap.size ≤ (w3.alloc (.cells #[.int .i64 k, .slice a2 n2 c2, .int .i64 h, .int .i64 q, .int .i64 r] 29)).heap.size := by omega
    have hrz : w3.heap.size ≤ (w3.alloc (.cells #[.int .i64 k, .slice a2 n2 c2, .int .i64 h, .int .i64 q, .int .i64 r] 29)).heap.size := by omega
    go_wp2_with fail
    have qVd := qV.drew
    have qRd := qR.drew
    have qF := (((((qR.set0 (.int .i64 k)).set1 (.slice a2 n2 c2)).set2 (.int .i64 h)).set3 (.int .i64 q)).set4 (.int .i64 r)).drew
    have hZ : Zone 0 (w.heap.size + 1) (w3.alloc (.cells #[.int .i64 k, .slice a2 n2 c2, .int .i64 h, .int .i64 q, .int .i64 r] 29)) ((((((w3.alloc (.cells #[.int .i64 k, .slice a2 n2 c2, .int .i64 h, .int .i64 q, .int .i64 r] 29)).setCell ⟨w.heap.size, 0, none⟩ (.int .i64 k)).setCell ⟨w.heap.size, 1, none⟩ (.slice a2 n2 c2)).setCell ⟨w.heap.size, 2, none⟩ (.int .i64 h)).setCell ⟨w.heap.size, 3, none⟩ (.int .i64 q)).setCell ⟨w.heap.size, 4, none⟩ (.int .i64 r)) := by
      iterate 5 (refine Zone.setCell ?_ ⟨Nat.zero_le _, by first | omega | (dsimp only; omega)⟩ _)
      exact Zone.refl _ _ _
    have hBF : Below w.heap.size w ((((((w3.alloc (.cells #[.int .i64 k, .slice a2 n2 c2, .int .i64 h, .int .i64 q, .int .i64 r] 29)).setCell ⟨w.heap.size, 0, none⟩ (.int .i64 k)).setCell ⟨w.heap.size, 1, none⟩ (.slice a2 n2 c2)).setCell ⟨w.heap.size, 2, none⟩ (.int .i64 h)).setCell ⟨w.heap.size, 3, none⟩ (.int .i64 q)).setCell ⟨w.heap.size, 4, none⟩ (.int .i64 r)).drew := by
      refine Below.drew ?_
      iterate 5 (refine Below.setCell ?_ (by first | omega | (dsimp only; omega)) _)
      exact hB
    have hsF : ((((((w3.alloc (.cells #[.int .i64 k, .slice a2 n2 c2, .int .i64 h, .int .i64 q, .int .i64 r] 29)).setCell ⟨w.heap.size, 0, none⟩ (.int .i64 k)).setCell ⟨w.heap.size, 1, none⟩ (.slice a2 n2 c2)).setCell ⟨w.heap.size, 2, none⟩ (.int .i64 h)).setCell ⟨w.heap.size, 3, none⟩ (.int .i64 q)).setCell ⟨w.heap.size, 4, none⟩ (.int .i64 r)).heap.size = (w3.alloc (.cells #[.int .i64 k, .slice a2 n2 c2, .int .i64 h, .int .i64 q, .int .i64 r] 29)).heap.size := by first | (simp [World.setCell]; done) | (simp [World.setCell]; rfl)
    have sVF : (fun w' => w'.cell? ⟨w3.heap.size, 0, none⟩ = some (.int .i64 k) ∧ w'.cell? ⟨w3.heap.size, 1, none⟩ = some (.slice a2 n2 c2) ∧ w'.cell? ⟨w3.heap.size, 2, none⟩ = some (.int .i64 h) ∧ w'.cell? ⟨w3.heap.size, 3, none⟩ = some (.int .i64 q) ∧ w'.cell? ⟨w3.heap.size, 4, none⟩ = some (.int .i64 r)) ((((((w3.alloc (.cells #[.int .i64 k, .slice a2 n2 c2, .int .i64 h, .int .i64 q, .int .i64 r] 29)).setCell ⟨w.heap.size, 0, none⟩ (.int .i64 k)).setCell ⟨w.heap.size, 1, none⟩ (.slice a2 n2 c2)).setCell ⟨w.heap.size, 2, none⟩ (.int .i64 h)).setCell ⟨w.heap.size, 3, none⟩ (.int .i64 q)).setCell ⟨w.heap.size, 4, none⟩ (.int .i64 r)).drew := ((((((qV.other (a := ⟨w.heap.size, 0, none⟩) (.int .i64 k) (by dsimp only; omega)).other (a := ⟨w.heap.size, 1, none⟩) (.slice a2 n2 c2) (by dsimp only; omega)).other (a := ⟨w.heap.size, 2, none⟩) (.int .i64 h) (by dsimp only; omega)).other (a := ⟨w.heap.size, 3, none⟩) (.int .i64 q) (by dsimp only; omega)).other (a := ⟨w.heap.size, 4, none⟩) (.int .i64 r) (by dsimp only; omega)).drew.cells)
    have hprF := laidP hpr hZ (Or.inr (by omega)) hsF hpz
    have rowF := laidR row hZ (Or.inr (by omega)) hsF hrz
    obtain ⟨f0, f1, f2, f3, f4⟩ := qR.frozen
    obtain ⟨z0, z1, z2, z3, z4⟩ := qR.cells
    obtain ⟨g0, g1, g2, g3, g4⟩ := qF.cells
    refine wp_region_held_drew (S := (fun w' => w'.cell? ⟨w3.heap.size, 0, none⟩ = some (.int .i64 k) ∧ w'.cell? ⟨w3.heap.size, 1, none⟩ = some (.slice a2 n2 c2) ∧ w'.cell? ⟨w3.heap.size, 2, none⟩ = some (.int .i64 h) ∧ w'.cell? ⟨w3.heap.size, 3, none⟩ = some (.int .i64 q) ∧ w'.cell? ⟨w3.heap.size, 4, none⟩ = some (.int .i64 r))) (by kernel_rfl) qVd.cells (fun hHeld => ?_)
    refine wpAnyH_take (i := 0) (v := ?ve1_0) (List.getElem?_toArray.trans rfl) (by kernel_rfl) (by kernel_rfl) (by kernel_rfl) (fun _ _ _ h => h) (Or.inl ⟨by rfl, ?ye1_0⟩) (by assumption) ?re1_0
    case ye1_0 => (intro w hSw; (try dsimp only at hSw); go_simp; try with_reducible rfl)
    try simp only [Act.put, List.setIfInBounds_toArray, List.set_cons_zero, List.set_cons_succ]
    refine wpAnyH_take (i := 1) (v := ?ve1_1) (List.getElem?_toArray.trans rfl) (by kernel_rfl) (by kernel_rfl) (by kernel_rfl) (fun _ _ _ h => h) (Or.inl ⟨by rfl, ?ye1_1⟩) (by assumption) ?re1_1
    case ye1_1 => (intro w hSw; (try dsimp only at hSw); go_simp; try with_reducible rfl)
    try simp only [Act.put, List.setIfInBounds_toArray, List.set_cons_zero, List.set_cons_succ]
    refine wpAnyH_take (i := 2) (v := ?ve1_2) (List.getElem?_toArray.trans rfl) (by kernel_rfl) (by kernel_rfl) (by kernel_rfl) (fun _ _ _ h => h) (Or.inl ⟨by rfl, ?ye1_2⟩) (by assumption) ?re1_2
    case ye1_2 => (intro w hSw; (try dsimp only at hSw); go_simp; try with_reducible rfl)
    try simp only [Act.put, List.setIfInBounds_toArray, List.set_cons_zero, List.set_cons_succ]
    refine wpAnyH_ready (rs := [3]) (by kernel_rfl) (by simp) ?_
    refine AllReadyH.cons (List.getElem?_toArray.trans rfl) (fun Kc hKc => ?_) AllReadyH.nil
    go_simp
    refine hKc.out _ _ sVF (fun hHeld => ?_)
    clear hKc Kc
    try simp only [Act.put, List.setIfInBounds_toArray, List.set_cons_zero, List.set_cons_succ]
    refine wpAnyH_done (by kernel_rfl) ?_ _
    clear z0 z1 z2 z3 z4
    go_wp2_with fail
    refine bodyPost_ret (v := .tuple #[.slice a1 n1 c1, (Value.agg #[Value.int IntKind.i64 (k), Value.slice (a2) (n2) (c2), Value.int IntKind.i64 (h), Value.int IntKind.i64 (q), Value.int IntKind.i64 (r)])]) (by simp [results, Tryz.results6, go_sem, g0, g1, g2, g3, g4]) rfl ?_
    exact ⟨_, _, _, l, _, _, _, _, _, _, _, _, rfl, hprF, by omega, rowF, by omega, hzc, hzm, wfI hk, wfI hh, wfI hq, wfI hr, hBF⟩
  have hd : decide ((n1 : Int) > 0) = true := by simp; omega
  have hd2 : decide ((0 : Int) < (n1 : Int)) = true := by simp; omega
  go_wp2_with fail
  go_at_call 33
  refine (once_any B _ _ _ hcW (by omega) (by omega)).mono ?_
  rintro e w4 ⟨⟨b, rfl⟩, hc4, ho4⟩
  have hs4 := ho4.size
  have qR := quint_only qR ho4 (by omega)
  have qV := quint_only qV ho4 (by omega)
  have hpr := hpr.on ho4 (by omega)
  have row := Parts.Row.on row ho4 (by omega)
  have hB := hB.trans (ho4.below (B := w.heap.size) (by omega) hB.size)
  clear hcW ho4
  go_upto_if 19 with fail
  go_cut [6] (fun s wx => s = .pointer (some ⟨w3.heap.size, 0, none⟩) ∧ ∃ (k' h' q' r' : Int) (a' : Option Addr) (n' c' : Nat) (zs' : List Int), Quint 29 w3.heap.size (.int .i64 k') (.slice a' n' c') (.int .i64 h') (.int .i64 q') (.int .i64 r') wx ∧ Quint 29 w.heap.size (.int .i64 0) (.slice none 0 0) (.int .i64 0) (.int .i64 0) (.int .i64 0) wx ∧ PRow w1.heap.size w2.heap.size wx a1 n1 l ∧ Row .i64 w1.heap.size w3.heap.size wx a' n' zs' ∧ n' ≤ 64 ∧ n' ≤ c' ∧ c' ≤ maxLen ∧ Wf k' ∧ Wf h' ∧ Wf q' ∧ Wf r' ∧ Below w.heap.size w wx ∧ w4.heap.size ≤ wx.heap.size)
  case first =>
    cases b
    · go_wp2_with fail
      go_meet
      case rel => exact ⟨rfl, k, h, q, r, a2, n2, c2, zs, qV, qR, hpr, row.more (by omega) (Nat.le_refl _), by omega, hzc, hzm, wfI hk, wfI hh, wfI hq, wfI hr, hB, Nat.le_refl _⟩
    · go_wp2_with fail
      go_at_call 34
      refine (below_any B _ n1 _ hc4 (by omega) (by omega)).mono ?_
      rintro e w5 ⟨⟨y, hy, rfl⟩, hc5, ho5⟩
      have hyn : y < n1 := by simp at hy; omega
      have hs5 := ho5.size
      have qR := quint_only qR ho5 (by omega)
      have qV := quint_only qV ho5 (by omega)
      have hpr := hpr.on ho5 (by omega)
      have hB := hB.trans (ho5.below (B := w.heap.size) (by omega) hB.size)
      have hyi : (y : Int) < (n1 : Int) := by omega
      obtain ⟨b, off, A, cc, e1, _, hbh, hC, hL, hwf⟩ := hpr.at hyn
      have hbz := hbz y hyn
      subst e1
      obtain ⟨P, hP⟩ : ∃ P, pt l y = P := ⟨_, rfl⟩
      rw [hP] at hC hL hwf hbz
      clear hP hy hc4 hc5 ho5 row
      obtain ⟨x0, x1, x2, x3, x4, x5, x6⟩ := hC
      obtain ⟨u0, u1, u2, u3, u4⟩ := qV.cells
      obtain ⟨v0, v1, v2, v3, v4⟩ := qV.frozen
      have hZV : Zone w3.heap.size (w3.heap.size + 1) w5 (((((w5.setCell ⟨w3.heap.size, 0, none⟩ (.int .i64 P.k)).setCell ⟨w3.heap.size, 1, none⟩ (.slice A P.zs.length cc)).setCell ⟨w3.heap.size, 2, none⟩ (.int .i64 P.h)).setCell ⟨w3.heap.size, 3, none⟩ (.int .i64 P.p)).setCell ⟨w3.heap.size, 4, none⟩ (.int .i64 P.q)) := by
        iterate 5 (refine Zone.setCell ?_ ⟨by first | omega | (dsimp only; omega), by first | omega | (dsimp only; omega)⟩ _)
        exact Zone.refl _ _ _
      have hB : Below w.heap.size w (((((w5.setCell ⟨w3.heap.size, 0, none⟩ (.int .i64 P.k)).setCell ⟨w3.heap.size, 1, none⟩ (.slice A P.zs.length cc)).setCell ⟨w3.heap.size, 2, none⟩ (.int .i64 P.h)).setCell ⟨w3.heap.size, 3, none⟩ (.int .i64 P.p)).setCell ⟨w3.heap.size, 4, none⟩ (.int .i64 P.q)) := by
        iterate 5 (refine Below.setCell ?_ (by dsimp only; omega) _)
        exact hB
      have hsX : (((((w5.setCell ⟨w3.heap.size, 0, none⟩ (.int .i64 P.k)).setCell ⟨w3.heap.size, 1, none⟩ (.slice A P.zs.length cc)).setCell ⟨w3.heap.size, 2, none⟩ (.int .i64 P.h)).setCell ⟨w3.heap.size, 3, none⟩ (.int .i64 P.p)).setCell ⟨w3.heap.size, 4, none⟩ (.int .i64 P.q)).heap.size = w5.heap.size := by simp [World.setCell]
      have qV := ((((qV.set0 (.int .i64 P.k)).set1 (.slice A P.zs.length cc)).set2 (.int .i64 P.h)).set3 (.int .i64 P.p)).set4 (.int .i64 P.q)
      have qR := qR.zone hZV (by omega)
      have hpr := hpr.zone hZV (Or.inl (by omega))
      have row := hL.row.zone hZV (Or.inl (by omega))
      have hzc := hL.le
      have hzm := hL.max
      have row := row.more (lo' := w1.heap.size) (hi' := w3.heap.size) (Nat.le_refl _) (by omega)
      have hsY : w4.heap.size ≤ (((((w5.setCell ⟨w3.heap.size, 0, none⟩ (.int .i64 P.k)).setCell ⟨w3.heap.size, 1, none⟩ (.slice A P.zs.length cc)).setCell ⟨w3.heap.size, 2, none⟩ (.int .i64 P.h)).setCell ⟨w3.heap.size, 3, none⟩ (.int .i64 P.p)).setCell ⟨w3.heap.size, 4, none⟩ (.int .i64 P.q)).heap.size := by omega
      clear hL
      go_wp2_with fail
      go_meet
      case rel => exact ⟨rfl, P.k, P.h, P.p, P.q, A, P.zs.length, cc, P.zs, qV, qR, hpr, row, hbz, hzc, hzm, hwf.2.1, hwf.2.2.1, hwf.2.2.2.1, hwf.2.2.2.2.1, hB, hsY⟩
  case rest =>
  obtain ⟨rfl, k', h', q', r', a', n', c', zs', qV, qR, hpr, row, hn', hzc, hzm, wk', wh', wq', wr', hB, hsY⟩ := hcut
  have hpz : w2.heap.size ≤ wc.heap.size := by omega
  have hrz : w3.heap.size ≤ wc.heap.size := by omega
  go_wp2_with fail
  have qVd := qV.drew
  have qRd := qR.drew
  have qF := (((((qR.set0 (.int .i64 k')).set1 (.slice a' n' c')).set2 (.int .i64 h')).set3 (.int .i64 q')).set4 (.int .i64 r')).drew
  have hZ : Zone 0 (w.heap.size + 1) wc (((((wc.setCell ⟨w.heap.size, 0, none⟩ (.int .i64 k')).setCell ⟨w.heap.size, 1, none⟩ (.slice a' n' c')).setCell ⟨w.heap.size, 2, none⟩ (.int .i64 h')).setCell ⟨w.heap.size, 3, none⟩ (.int .i64 q')).setCell ⟨w.heap.size, 4, none⟩ (.int .i64 r')) := by
    iterate 5 (refine Zone.setCell ?_ ⟨Nat.zero_le _, by first | omega | (dsimp only; omega)⟩ _)
    exact Zone.refl _ _ _
  have hBF : Below w.heap.size w (((((wc.setCell ⟨w.heap.size, 0, none⟩ (.int .i64 k')).setCell ⟨w.heap.size, 1, none⟩ (.slice a' n' c')).setCell ⟨w.heap.size, 2, none⟩ (.int .i64 h')).setCell ⟨w.heap.size, 3, none⟩ (.int .i64 q')).setCell ⟨w.heap.size, 4, none⟩ (.int .i64 r')).drew := by
    refine Below.drew ?_
    iterate 5 (refine Below.setCell ?_ (by first | omega | (dsimp only; omega)) _)
    exact hB
  have hsF : (((((wc.setCell ⟨w.heap.size, 0, none⟩ (.int .i64 k')).setCell ⟨w.heap.size, 1, none⟩ (.slice a' n' c')).setCell ⟨w.heap.size, 2, none⟩ (.int .i64 h')).setCell ⟨w.heap.size, 3, none⟩ (.int .i64 q')).setCell ⟨w.heap.size, 4, none⟩ (.int .i64 r')).heap.size = wc.heap.size := by first | (simp [World.setCell]; done) | (simp [World.setCell]; rfl)
  have sVF : (fun w' => w'.cell? ⟨w3.heap.size, 0, none⟩ = some (.int .i64 k') ∧ w'.cell? ⟨w3.heap.size, 1, none⟩ = some (.slice a' n' c') ∧ w'.cell? ⟨w3.heap.size, 2, none⟩ = some (.int .i64 h') ∧ w'.cell? ⟨w3.heap.size, 3, none⟩ = some (.int .i64 q') ∧ w'.cell? ⟨w3.heap.size, 4, none⟩ = some (.int .i64 r')) (((((wc.setCell ⟨w.heap.size, 0, none⟩ (.int .i64 k')).setCell ⟨w.heap.size, 1, none⟩ (.slice a' n' c')).setCell ⟨w.heap.size, 2, none⟩ (.int .i64 h')).setCell ⟨w.heap.size, 3, none⟩ (.int .i64 q')).setCell ⟨w.heap.size, 4, none⟩ (.int .i64 r')).drew := ((((((qV.other (a := ⟨w.heap.size, 0, none⟩) (.int .i64 k') (by dsimp only; omega)).other (a := ⟨w.heap.size, 1, none⟩) (.slice a' n' c') (by dsimp only; omega)).other (a := ⟨w.heap.size, 2, none⟩) (.int .i64 h') (by dsimp only; omega)).other (a := ⟨w.heap.size, 3, none⟩) (.int .i64 q') (by dsimp only; omega)).other (a := ⟨w.heap.size, 4, none⟩) (.int .i64 r') (by dsimp only; omega)).drew.cells)
  have hprF := laidP hpr hZ (Or.inr (by omega)) hsF hpz
  have rowF := laidR row hZ (Or.inr (by omega)) hsF hrz
  obtain ⟨f0, f1, f2, f3, f4⟩ := qR.frozen
  obtain ⟨z0, z1, z2, z3, z4⟩ := qR.cells
  obtain ⟨g0, g1, g2, g3, g4⟩ := qF.cells
  refine wp_region_held_drew (S := (fun w' => w'.cell? ⟨w3.heap.size, 0, none⟩ = some (.int .i64 k') ∧ w'.cell? ⟨w3.heap.size, 1, none⟩ = some (.slice a' n' c') ∧ w'.cell? ⟨w3.heap.size, 2, none⟩ = some (.int .i64 h') ∧ w'.cell? ⟨w3.heap.size, 3, none⟩ = some (.int .i64 q') ∧ w'.cell? ⟨w3.heap.size, 4, none⟩ = some (.int .i64 r'))) (by kernel_rfl) qVd.cells (fun hHeld => ?_)
  refine wpAnyH_take (i := 0) (v := ?ve2_0) (List.getElem?_toArray.trans rfl) (by kernel_rfl) (by kernel_rfl) (by kernel_rfl) (fun _ _ _ h => h) (Or.inl ⟨by rfl, ?ye2_0⟩) (by assumption) ?re2_0
  case ye2_0 => (intro w hSw; (try dsimp only at hSw); go_simp; try with_reducible rfl)
  try simp only [Act.put, List.setIfInBounds_toArray, List.set_cons_zero, List.set_cons_succ]
  refine wpAnyH_take (i := 1) (v := ?ve2_1) (List.getElem?_toArray.trans rfl) (by kernel_rfl) (by kernel_rfl) (by kernel_rfl) (fun _ _ _ h => h) (Or.inl ⟨by rfl, ?ye2_1⟩) (by assumption) ?re2_1
  case ye2_1 => (intro w hSw; (try dsimp only at hSw); go_simp; try with_reducible rfl)
  try simp only [Act.put, List.setIfInBounds_toArray, List.set_cons_zero, List.set_cons_succ]
  refine wpAnyH_take (i := 2) (v := ?ve2_2) (List.getElem?_toArray.trans rfl) (by kernel_rfl) (by kernel_rfl) (by kernel_rfl) (fun _ _ _ h => h) (Or.inl ⟨by rfl, ?ye2_2⟩) (by assumption) ?re2_2
  case ye2_2 => (intro w hSw; (try dsimp only at hSw); go_simp; try with_reducible rfl)
  try simp only [Act.put, List.setIfInBounds_toArray, List.set_cons_zero, List.set_cons_succ]
  refine wpAnyH_ready (rs := [3]) (by kernel_rfl) (by simp) ?_
  refine AllReadyH.cons (List.getElem?_toArray.trans rfl) (fun Kc hKc => ?_) AllReadyH.nil
  go_simp
  refine hKc.out _ _ sVF (fun hHeld => ?_)
  clear hKc Kc
  try simp only [Act.put, List.setIfInBounds_toArray, List.set_cons_zero, List.set_cons_succ]
  refine wpAnyH_done (by kernel_rfl) ?_ _
  clear z0 z1 z2 z3 z4
  go_wp2_with fail
  refine bodyPost_ret (v := .tuple #[.slice a1 n1 c1, (Value.agg #[Value.int IntKind.i64 (k'), Value.slice (a') (n') (c'), Value.int IntKind.i64 (h'), Value.int IntKind.i64 (q'), Value.int IntKind.i64 (r')])]) (by simp [results, Tryz.results6, go_sem, g0, g1, g2, g3, g4]) rfl ?_
  exact ⟨_, _, _, l, _, _, _, _, _, _, _, _, rfl, hprF, by omega, rowF, hn', hzc, hzm, wk', wh', wq', wr', hBF⟩


/-- Two lists of parts, drawn. -/
def DrawnTwo (w : World) (e : Ending) (w' : World) : Prop :=
  ∃ (a : Option Addr) (n c : Nat) (l : List Prt) (a' : Option Addr) (n' c' : Nat) (l' : List Prt), e = .returned (.tuple #[.slice a n c, .slice a' n' c']) ∧ PRow 0 w'.heap.size w' a n l ∧ room l ≤ 64 ∧ PRow 0 w'.heap.size w' a' n' l' ∧ room l' ≤ 64 ∧ Below w.heap.size w w'

set_option maxHeartbeats 2000000 in
set_option maxRecDepth 100000 in
theorem draw_two (B : Nat) (a : Option Addr) (n c : Nat) (w : World) (hb : Bytes B w a n) (hB : B ≤ w.heap.size) :
    Calls Tryz.prog 19 #[.slice a n c] w (DrawnTwo w) := by
  go_enter Tryz.func19, Tryz.ntmps19
  go_wp2_with fail
  go_at_call 30
  refine (new_any B a n c _ hb hB).mono ?_
  rintro e w1 ⟨rfl, hc1, hb1⟩
  have hs1 := hc1.lt
  clear hb
  go_wp2_with fail
  go_at_call 31
  refine (any7 B _ _ hc1).mono ?_
  rintro e w2 ⟨a1, n1, c1, l, rfl, hpr, hrm, hc2, ho2⟩
  have hB2 := hb1.trans (ho2.below (B := w.heap.size) (by omega) hb1.size)
  have hs2 := ho2.size
  clear hc1 ho2
  go_wp2_with fail
  go_at_call 33
  refine (once_any B _ _ _ hc2 (by omega) (by omega)).mono ?_
  rintro e w3 ⟨⟨b, rfl⟩, hc3, ho3⟩
  have hpr3 := hpr.on ho3 (by omega)
  have hB3 := hB2.trans (ho3.below (B := w.heap.size) (by omega) hB2.size)
  have hs3 := ho3.size
  clear hc2 ho3 hpr hB2
  cases b
  · go_wp2_with fail
    go_at_call 31
    refine (any7 B _ _ hc3).mono ?_
    rintro e w4 ⟨a2, n2, c2, l2, rfl, hpr4, hrm4, hc4, ho4⟩
    have hB4 := hB3.trans (ho4.below (B := w.heap.size) (by omega) hB3.size)
    have hs4 := ho4.size
    have hpr5 := (hpr3.on ho4 (by omega)).more (Nat.zero_le _) (show w2.heap.size ≤ w4.heap.size by omega)
    have hpr6 := hpr4.more (Nat.zero_le _) (Nat.le_refl _)
    clear hc3 ho4 hc4 hpr3 hpr4
    go_wp2
    go_ret2
    exact ⟨_, _, _, l, _, _, _, l2, rfl, hpr5, hrm, hpr6, hrm4, hB4⟩
  · have hC := copy_spec w1.heap.size w2.heap.size w3 a1 n1 c1 l hpr3 hs3 (by omega)
    go_wp2_with fail
    go_at_call 57
    refine hC.mono ?_
    rintro e w4 ⟨v, G, rfl, hv, hb4⟩
    obtain ⟨va, vc, rfl, hnc, hcm, hpo⟩ := hv.shape
    have hB4 := hB3.trans (hb4.mono hB3.size)
    have hs4 := hb4.size
    have hpr5 := (hpr3.below hb4).more (Nat.zero_le _) (show w2.heap.size ≤ w4.heap.size by omega)
    have hpr6 := hpo.row.more (Nat.zero_le _) (Nat.le_refl _)
    clear hC hpo hv hc3 hpr3
    go_wp2
    go_ret2
    exact ⟨_, _, _, l, _, _, _, l, rfl, hpr5, hrm, hpr6, hrm, hB4⟩
end Go.Proofs.YtedjclnojocjkaaGreatDoor.Draw
