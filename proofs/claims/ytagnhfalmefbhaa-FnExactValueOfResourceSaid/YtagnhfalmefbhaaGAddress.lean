/-
  A struct (Address): its cells in the words for data of any depth, and the exact laws' helpers at it.
  Conditions: what it leads to lies in memory.
-/
import Derived.Test.YtagnhfalmefbhaaDatInts
import Derived.Test.YtagnhfalmefbhaaBlk
import Derived.WalkKit
import Derived.Handy
import Derived.Deep.RegionHeld3
import Derived.Deep.CutBlock
import Derived.Deep.DeepCutAuto
namespace Go.Proofs.Ytagnhfalmefbhaa.Gen
open Go Go.RowKit Go.Proofs.Ytagnhfalmefbhaa.Mem

structure TAddress where
  f0 : Int
  f1 : Int
  f2 : Int
def nAddress : TAddress := ⟨0, 0, 0⟩
def TAddress.c (P : TAddress) : Nat → Dat
  | 0 => .int P.f0
  | 1 => .int P.f1
  | 2 => .int P.f2
  | _ => .int 0
def dAddress (l : List TAddress) : Dat := .row 3 l.length fun i => (l.getD i nAddress).c
/-- The cells of an element. -/
structure CAddress (w : World) (b o : Nat) (P : TAddress)  : Prop where
  c0 : w.cell? ⟨b, o, none⟩ = some (.int .i64 P.f0)
  c1 : w.cell? ⟨b, o + 1, none⟩ = some (.int .i64 P.f1)
  c2 : w.cell? ⟨b, o + 2, none⟩ = some (.int .i64 P.f2)
section
variable {lo hi b o : Nat} {w w' : World} {P : TAddress} 
theorem CAddress.keep (h : CAddress w b o P ) (hb : w'.heap[b]? = w.heap[b]?) : CAddress w' b o P  :=
  ⟨by rw [Mem.cell_of_heap hb]; exact h.c0, by rw [Mem.cell_of_heap hb]; exact h.c1, by rw [Mem.cell_of_heap hb]; exact h.c2⟩
theorem CAddress.lt (h : CAddress w b o P ) : b < w.heap.size := Mem.cell_lt h.c0
theorem CAddress.below (h : CAddress w b o P ) (hb : Below w.heap.size w w') : CAddress w' b o P  := h.keep (hb.block _ h.lt)
theorem CAddress.all (h : CAddress w b o P ) : w.cell? ⟨b, o, none⟩ = some (.int .i64 P.f0) ∧ w.cell? ⟨b, o + 1, none⟩ = some (.int .i64 P.f1) ∧ w.cell? ⟨b, o + 2, none⟩ = some (.int .i64 P.f2) := ⟨h.c0, h.c1, h.c2⟩
end
theorem at_Address {lo hi : Nat} {w : World} {A : Option Addr} {n c : Nat} {l : List TAddress} (h : Lies lo hi w (dAddress l) (.slice A n c)) {j : Nat} (hj : j < n) :
    ∃ (b off : Nat) , A = some ⟨b, off, none⟩ ∧ lo ≤ b ∧ b < hi ∧ CAddress w b (off + j * 3) (l.getD j nAddress)  ∧ ((Lit.int .i64 (l.getD j nAddress).f0).wf = true ∧ (Lit.int .i64 (l.getD j nAddress).f1).wf = true ∧ (Lit.int .i64 (l.getD j nAddress).f2).wf = true ∧ True) := by
  obtain ⟨A', c', e, h1, h2, h3⟩ := h
  injection e with e1 e2 e3
  subst e1 e2 e3
  obtain ⟨b, off, rfl, k1, k2, k3⟩ := h3 (by omega)
  have k4 : ∀ x, x < 3 → ∃ u, w.cell? ⟨b, off + j * 3 + x, none⟩ = some u ∧ Lies lo hi w ((l.getD j nAddress).c x) u := fun x hx => k3 j hj x hx
  clear k3 h3
  obtain ⟨P, hP⟩ : ∃ P, l.getD j nAddress = P := ⟨_, rfl⟩
  rw [hP] at k4 ⊢
  obtain ⟨u0, g0, q0⟩ := k4 0 (by omega)
  replace q0 : Lies lo hi w (.int P.f0) u0 := q0
  obtain ⟨rfl, w0⟩ := lies_int q0
  obtain ⟨u1, g1, q1⟩ := k4 1 (by omega)
  replace q1 : Lies lo hi w (.int P.f1) u1 := q1
  obtain ⟨rfl, w1⟩ := lies_int q1
  obtain ⟨u2, g2, q2⟩ := k4 2 (by omega)
  replace q2 : Lies lo hi w (.int P.f2) u2 := q2
  obtain ⟨rfl, w2⟩ := lies_int q2
  exact ⟨b, off, rfl, k1, k2, ⟨g0, g1, g2⟩, ⟨w0, w1, w2, trivial⟩⟩
theorem lies_Address {lo hi : Nat} {w : World} {l : List TAddress} {v : Value} (h : Lies lo hi w (dAddress l) v) : ∃ A c, v = .slice A l.length c := by
  obtain ⟨A, c, e, _⟩ := h; exact ⟨A, c, e⟩
theorem room_Address (P : TAddress) : sumTo (fun x => room (P.c x)) 3 = 0 := by
  first | (simp [sumTo, TAddress.c, room]; done) | (simp [sumTo, TAddress.c, room]; omega)
theorem ct_Address (P : TAddress) : sumTo (fun x => ct (P.c x)) 3 = 3 := by
  first | (simp [sumTo, TAddress.c, ct]; done) | (simp [sumTo, TAddress.c, ct]; omega)

set_option maxHeartbeats 1600000 in
set_option maxRecDepth 100000 in
theorem gto_Address {w : World} (P : TAddress)  :
    Calls Try.prog 57 #[(Value.agg #[.int .i64 P.f0, .int .i64 P.f1, .int .i64 P.f2])] w fun e w' => e = .returned (Value.agg #[.int .i64 P.f0, .int .i64 P.f1, .int .i64 P.f2]) ∧ Below w.heap.size w w' := by
  go_enter Try.func57, Try.ntmps57
  go_wp2
  refine bodyPost_ret (v := (Value.agg #[.int .i64 P.f0, .int .i64 P.f1, .int .i64 P.f2])) (by simp [results, Try.results57, go_sem]) rfl ⟨rfl, ?_⟩
  repeat' (first | exact Below.refl _ _ | assumption | refine Below.setCell ?_ ?_ _ | refine Below.alloc ?_ ?_ _ | refine Gen.gbelow_drewN ?_ _ | refine Below.drew ?_ | exact Nat.le_refl _ | omega | (dsimp only; omega) | refine Gen.gle_alloc ?_ | refine Gen.gle_set ?_ | refine Gen.gle_drewN ?_ | refine Gen.gle_drew ?_)


set_option maxHeartbeats 1600000 in
set_option maxRecDepth 100000 in
theorem geq_Address {w : World} (P : TAddress)    :
    Calls Try.prog 58 #[(Value.agg #[.int .i64 P.f0, .int .i64 P.f1, .int .i64 P.f2]), (Value.agg #[.int .i64 P.f0, .int .i64 P.f1, .int .i64 P.f2])] w fun e w' => e = .returned (.bool true) ∧ Below w.heap.size w w' := by
  obtain ⟨O1, hO1⟩ : ∃ O, O = Obj.cells #[Value.int .i64 P.f0, .int .i64 P.f1, .int .i64 P.f2] 29 (0, 0) := ⟨_, rfl⟩
  obtain ⟨O2, hO2⟩ : ∃ O, O = Obj.cells #[Value.int .i64 P.f0, .int .i64 P.f1, .int .i64 P.f2] 29 (0, 0) := ⟨_, rfl⟩
  have hB : Below w.heap.size w ((w.alloc O1).alloc O2) := by repeat' (first | exact Below.refl _ _ | assumption | refine Below.setCell ?_ ?_ _ | refine Below.alloc ?_ ?_ _ | refine Gen.gbelow_drewN ?_ _ | refine Below.drew ?_ | exact Nat.le_refl _ | omega | (dsimp only; omega) | refine Gen.gle_alloc ?_ | refine Gen.gle_set ?_ | refine Gen.gle_drewN ?_ | refine Gen.gle_drew ?_)
  have qA : Blk 29 w.heap.size [Value.int .i64 P.f0, .int .i64 P.f1, .int .i64 P.f2] ((w.alloc O1).alloc O2) := by rw [hO1]; exact (Blk.new _ _ w).alloc _
  have qB : Blk 29 (w.heap.size + 1) [Value.int .i64 P.f0, .int .i64 P.f1, .int .i64 P.f2] ((w.alloc O1).alloc O2) := by have := Blk.new 29 [Value.int .i64 P.f0, .int .i64 P.f1, .int .i64 P.f2] (w.alloc O1); rw [gsize_alloc] at this; rw [hO2]; exact this
  subst hO1 hO2
  have ca0 : ((w.alloc (.cells #[Value.int .i64 P.f0, .int .i64 P.f1, .int .i64 P.f2] 29)).alloc (.cells #[Value.int .i64 P.f0, .int .i64 P.f1, .int .i64 P.f2] 29)).cell? ⟨w.heap.size, 0, none⟩ = some (.int .i64 P.f0) := qA.at rfl
  have cb0 : ((w.alloc (.cells #[Value.int .i64 P.f0, .int .i64 P.f1, .int .i64 P.f2] 29)).alloc (.cells #[Value.int .i64 P.f0, .int .i64 P.f1, .int .i64 P.f2] 29)).cell? ⟨w.heap.size + 1, 0, none⟩ = some (.int .i64 P.f0) := qB.at rfl
  have ca1 : ((w.alloc (.cells #[Value.int .i64 P.f0, .int .i64 P.f1, .int .i64 P.f2] 29)).alloc (.cells #[Value.int .i64 P.f0, .int .i64 P.f1, .int .i64 P.f2] 29)).cell? ⟨w.heap.size, 1, none⟩ = some (.int .i64 P.f1) := qA.at rfl
  have cb1 : ((w.alloc (.cells #[Value.int .i64 P.f0, .int .i64 P.f1, .int .i64 P.f2] 29)).alloc (.cells #[Value.int .i64 P.f0, .int .i64 P.f1, .int .i64 P.f2] 29)).cell? ⟨w.heap.size + 1, 1, none⟩ = some (.int .i64 P.f1) := qB.at rfl
  have ca2 : ((w.alloc (.cells #[Value.int .i64 P.f0, .int .i64 P.f1, .int .i64 P.f2] 29)).alloc (.cells #[Value.int .i64 P.f0, .int .i64 P.f1, .int .i64 P.f2] 29)).cell? ⟨w.heap.size, 2, none⟩ = some (.int .i64 P.f2) := qA.at rfl
  have cb2 : ((w.alloc (.cells #[Value.int .i64 P.f0, .int .i64 P.f1, .int .i64 P.f2] 29)).alloc (.cells #[Value.int .i64 P.f0, .int .i64 P.f1, .int .i64 P.f2] 29)).cell? ⟨w.heap.size + 1, 2, none⟩ = some (.int .i64 P.f2) := qB.at rfl
  go_enter Try.func58, Try.ntmps58
  go_wp2
  go_ret
  exact ⟨rfl, hB⟩

theorem infoAddress : (Try.prog.info? 29).map (fun i => (i.zero, i.size, i.bytes)) = some (some (.agg #[.int .i64 0, .int .i64 0, .int .i64 0]), 3, 24) := by kernel_rfl
theorem putL_Address (w : World) (b o : Nat) (a0 a1 a2 : Value) : putL w b o [a0, a1, a2] = ((w.setCell ⟨b, o, none⟩ a0).setCell ⟨b, o + 1, none⟩ a1).setCell ⟨b, o + 2, none⟩ a2 := rfl
theorem ctb_AddressS (l : List TAddress) : ct (dAddress l) ≤ 64 * room (dAddress l) := by
  refine ct_le_room (by omega) fun i _ => ?_
  have h1 := ct_Address (l.getD i nAddress)
  have h2 := room_Address (l.getD i nAddress)
  show sumTo (fun x => ct ((l.getD i nAddress).c x)) 3 ≤ 3 + 64 * sumTo (fun x => room ((l.getD i nAddress).c x)) 3
  omega
set_option maxHeartbeats 1600000 in
set_option maxRecDepth 100000 in
theorem geq_AddressS {x1 y1 x2 y2 : Nat} {w : World} {l : List TAddress} {v v' : Value} (h : Lies x1 y1 w (dAddress l) v) (h' : Lies x2 y2 w (dAddress l) v') (s1 : y1 ≤ w.heap.size) (s2 : y2 ≤ w.heap.size) :
    Calls Try.prog 27 #[v, v'] w fun e w' => e = .returned (.bool true) ∧ Below w.heap.size w w' := by
  obtain ⟨A, c, rfl⟩ := lies_Address h
  obtain ⟨A', c', rfl⟩ := lies_Address h'
  have hcm : l.length ≤ maxLen := by obtain ⟨_, _, e, h1, h2, _⟩ := h; exact Nat.le_trans h1 h2
  unfold maxLen at hcm
  obtain ⟨n, hn⟩ : ∃ n, l.length = n := ⟨_, rfl⟩
  rw [hn] at h h' hcm ⊢
  clear hn
  go_enter Try.func27, Try.ntmps27
  go_wp2
  go_loopw [5] (fun i wr => ∃ j : Nat, j ≤ n ∧ i = .int .i64 j ∧ Below w.heap.size w wr) (fun i _ => n - (intOf i).toNat)
  case atStart => exact ⟨0, Nat.zero_le _, rfl, Below.refl _ _⟩
  case round =>
    obtain ⟨j, hj, rfl, hbl⟩ := hrel
    by_cases hlt : j < n
    · have hbs := hbl.size
      obtain ⟨bu, offu, rfl, _, _, hcu, hwu⟩ := at_Address (h.under hbl s1) hlt
      obtain ⟨bt, offt, rfl, _, _, hct, hwt⟩ := at_Address (h'.under hbl s2) hlt
      obtain ⟨P, hP⟩ : ∃ P, l.getD j nAddress = P := ⟨_, rfl⟩
      rw [hP] at hcu hct
      have u1 := hcu.keep (w' := wr.drew) rfl
      have u2 := hct.keep (w' := wr.drew) rfl
      have hE := geq_Address (w := wr.drew) P
      clear hP hwu hwt h h'
      have s9 := u1.all
      have t9 := u2.all
      obtain ⟨x0, x1, x2⟩ := hcu.all
      obtain ⟨y0, y1, y2⟩ := hct.all
      go_wp2_with fail
      go_region_held3 (fun w' => (w'.cell? ⟨bu, offu + j * 3, none⟩ = some (.int .i64 P.f0) ∧ w'.cell? ⟨bu, offu + j * 3 + 1, none⟩ = some (.int .i64 P.f1) ∧ w'.cell? ⟨bu, offu + j * 3 + 2, none⟩ = some (.int .i64 P.f2)) ∧ (w'.cell? ⟨bt, offt + j * 3, none⟩ = some (.int .i64 P.f0) ∧ w'.cell? ⟨bt, offt + j * 3 + 1, none⟩ = some (.int .i64 P.f1) ∧ w'.cell? ⟨bt, offt + j * 3 + 2, none⟩ = some (.int .i64 P.f2)))
        (first | exact r9 | assumption | go_keep)
        (first | (go_at_call 58; refine hE.mono ?_; rintro e w9 ⟨rfl, hb9⟩; have r9 := And.intro (u1.below hb9).all (u2.below hb9).all))
      all_goals
        go_wp2
        go_roundw
        case rel => exact ⟨j + 1, by omega, by go_num, hbl.drew.trans (hb9.mono hbl.drew.size)⟩
        case measure => simp [intOf]; omega
    · have hd : decide ((j : Int) < (n : Int)) = false := by simp; omega
      go_wp2
      go_ret
      exact ⟨rfl, hbl⟩
set_option maxHeartbeats 1600000 in
set_option maxRecDepth 100000 in
theorem gmark_AddressS {w : World} {l : List TAddress} {v : Value} {S : Nat → Prop} (m : Nat) (h : Owns w (dAddress l) v S) (hm : m + ct (dAddress l) ≤ 1125899906842624) :
    Calls Try.prog 29 #[v, .int .i64 m] w fun e w' => e = .returned (.int .i64 ((m + ct (dAddress l) : Nat) : Int)) ∧ Owns w' (mk m (dAddress l)) v S ∧ Turn S w w' := by
  obtain ⟨D, hD⟩ : ∃ D : Nat → Nat → Dat, D = (fun i => (l.getD i nAddress).c) := ⟨_, rfl⟩
  obtain ⟨n, hn⟩ : ∃ n, l.length = n := ⟨_, rfl⟩
  have hd : dAddress l = .row 3 n D := by rw [hD, ← hn]; rfl
  have hDz : ∀ i, D i = (l.getD i nAddress).c := fun i => by rw [hD]
  have hct : ct (dAddress l) = sumTo (ctRow 3 D) n := by rw [hd]; rfl
  rw [hct] at hm ⊢
  rw [hd] at h ⊢
  obtain ⟨A, c, rfl, h1, h2, h3⟩ := h
  unfold maxLen at h2
  rcases Nat.eq_zero_or_pos n with h0 | hpos
  · subst h0
    go_enter Try.func29, Try.ntmps29
    go_wp2
    refine wp_loop_rounds 1 ?_
    rw [rounds_succ]
    go_wp2
    go_ret
    exact ⟨rfl, ⟨A, c, rfl, h1, by unfold maxLen; omega, fun h => absurd h (by omega)⟩, Turn.refl _ _⟩
  obtain ⟨b, off, G, rfl, hSb, hAp, hc⟩ := h3 hpos
  have hC0 : Cellar w b off n 3 G (inked 3 D m 0 0) := by rw [inked_zero]; exact hc
  have HC0 := Lib.hid hC0
  have HA := Lib.hid hAp
  have HM := Lib.hid hm
  have HD := Lib.hid hDz
  have HL := Lib.hid h1
  have hn63 : n ≤ 9223372036854775807 := by omega
  have hmb : m ≤ 1125899906842624 := by omega
  clear hm hc h3 hC0 hAp hct hd hD hDz hn h1
  go_enter Try.func29, Try.ntmps29
  go_wp2
  go_loopw [1, 5] (fun k i wr => ∃ j kk : Nat, j ≤ n ∧ i = .int .i64 j ∧ k = .int .i64 kk ∧ Hid (kk = m + sumTo (ctRow 3 D) j) ∧ kk ≤ 1125899906842624 ∧ Hid (Cellar wr b off n 3 G (inked 3 D m j 0)) ∧ Hid (Turn S w wr)) (fun _ i _ => n - (intOf i).toNat)
  case atStart => exact ⟨0, m, Nat.zero_le _, rfl, rfl, by simp [sumTo, Hid], hmb, HC0, Turn.refl _ _⟩
  case round =>
    obtain ⟨j, kk, hj, rfl, rfl, HK, hkk, HC, HT⟩ := hrel
    clear HC0
    by_cases hlt : j < n
    · obtain ⟨P, hP⟩ : ∃ P, l.getD j nAddress = P := ⟨_, rfl⟩
      have hDj : D j = P.c := by rw [HD.out, hP]
      have HDj := Lib.hid hDj
      have hb0 : m + before 3 D j 0 = kk := by rw [before_zero, HK.out]
      have htot : kk + sumTo (fun x => ct (P.c x)) 3 ≤ 1125899906842624 := by
        have q1 := sumTo_le (ctRow 3 D) (i := j + 1) (n := n) (by omega)
        have q2 : ctRow 3 D j = sumTo (fun x => ct (P.c x)) 3 := by unfold ctRow; rw [hDj]
        have q3 := HK.out; have q4 := HM.out
        simp only [sumTo] at q1 q2 ⊢
        omega
      rw [ct_Address] at htot
      have hb1 : m + before 3 D j 1 = kk + 1 := by rw [before_succ, hDj]; show m + (before 3 D j 0 + ct (.int P.f0)) = _; simp only [ct]; omega
      have hb2 : m + before 3 D j 2 = kk + 2 := by rw [before_succ, hDj]; show m + (before 3 D j 1 + ct (.int P.f1)) = _; simp only [ct]; omega
      clear hP hDj
      have HB0 := Lib.hid hb0
      have HB1 := Lib.hid hb1
      have HB2 := Lib.hid hb2
      clear hb0 hb1 hb2
      obtain ⟨fz0, u0, cl0, ow0⟩ := HC.out.next hlt (y := 0) (by omega) (by omega)
      rw [HDj.out] at ow0
      replace ow0 : Owns wr (.int P.f0) u0 (G j 0) := ow0
      obtain ⟨rfl, _⟩ := owns_int ow0
      clear ow0
      rw [Nat.add_zero] at fz0 cl0
      obtain ⟨fz1, u1, cl1, ow1⟩ := HC.out.next hlt (y := 1) (by omega) (by omega)
      rw [HDj.out] at ow1
      replace ow1 : Owns wr (.int P.f1) u1 (G j 1) := ow1
      obtain ⟨rfl, _⟩ := owns_int ow1
      clear ow1
      obtain ⟨fz2, u2, cl2, ow2⟩ := HC.out.next hlt (y := 2) (by omega) (by omega)
      rw [HDj.out] at ow2
      replace ow2 : Owns wr (.int P.f2) u2 (G j 2) := ow2
      obtain ⟨rfl, _⟩ := owns_int ow2
      clear ow2
      have HC1 := Lib.hid (Cellar.cell (v := .int .i64 ((kk : Int))) (x := 0) HC.out HA.out hlt (by omega) (fun _ _ => by rw [HB0.out, HDj.out]; exact ink_int (by first | rfl | (congr 1; omega)) (by omega)))
      rw [Nat.add_zero] at HC1
      have HT1 : Hid (Turn S w (wr.setCell ⟨b, off + j * 3, none⟩ (.int .i64 ((kk : Int))))) := Turn.setCell HT.out hSb _
      have HC2 := Lib.hid (Cellar.cell (v := .int .i64 ((kk : Int) + 1)) (x := 1) HC1.out HA.out hlt (by omega) (fun _ _ => by rw [HB1.out, HDj.out]; exact ink_int (by first | rfl | (congr 1; omega)) (by omega)))
      have HT2 : Hid (Turn S w ((wr.setCell ⟨b, off + j * 3, none⟩ (.int .i64 ((kk : Int)))).setCell ⟨b, off + j * 3 + 1, none⟩ (.int .i64 ((kk : Int) + 1)))) := Turn.setCell HT1.out hSb _
      have HC3 := Lib.hid (Cellar.cell (v := .int .i64 ((kk : Int) + 1 + 1)) (x := 2) HC2.out HA.out hlt (by omega) (fun _ _ => by rw [HB2.out, HDj.out]; exact ink_int (by first | rfl | (congr 1; omega)) (by omega)))
      have HT3 : Hid (Turn S w (((wr.setCell ⟨b, off + j * 3, none⟩ (.int .i64 ((kk : Int)))).setCell ⟨b, off + j * 3 + 1, none⟩ (.int .i64 ((kk : Int) + 1))).setCell ⟨b, off + j * 3 + 2, none⟩ (.int .i64 ((kk : Int) + 1 + 1)))) := Turn.setCell HT2.out hSb _
      have hfin : m + sumTo (ctRow 3 D) (j + 1) = kk + 3 := by rw [← before_next, before_succ, HDj.out]; show m + (before 3 D j 2 + ct (.int P.f2)) = _; have := HB2.out; simp only [ct]; omega
      have HF := Lib.hid hfin
      clear hfin
      go_wp2
      go_roundw
      case rel =>
        refine ⟨j + 1, kk + 3, by omega, by go_num, (by rw [show ((kk + 3 : Nat) : Int) = (kk : Int) + 1 + 1 + 1 by omega]), ?_, ?_, ?_, HT3⟩
        · have h1 := HF.out; show _ = _; omega
        · have h1 := HF.out; omega
        · exact (HC3.out).round
      case measure => simp [intOf]; omega
    · have hd : decide ((j : Int) < (n : Int)) = false := by simp; omega
      have HE := Lib.hid (show j = n by omega)
      go_wp2
      go_ret
      have g1 := HC.out
      have g2 := HK.out
      rw [HE.out] at g1 g2
      exact ⟨by rw [g2]; rfl, ⟨_, c, rfl, HL.out, by unfold maxLen; omega, fun _ => ⟨b, off, G, rfl, hSb, HA.out, g1.all⟩⟩, HT.out⟩
set_option maxHeartbeats 1600000 in
set_option maxRecDepth 100000 in
theorem gheld_AddressS {lo hi : Nat} {w : World} {l : List TAddress} {v : Value} (m : Nat) (h : Lies lo hi w (mk m (dAddress l)) v) (hm : m + ct (dAddress l) ≤ 1125899906842624) :
    Calls Try.prog 30 #[v, .int .i64 m] w fun e w' => e = .returned (.int .i64 ((m + ct (dAddress l) : Nat) : Int)) ∧ ∃ q, w' = w.drewN q := by
  obtain ⟨D, hD⟩ : ∃ D : Nat → Nat → Dat, D = (fun i => (l.getD i nAddress).c) := ⟨_, rfl⟩
  obtain ⟨n, hn⟩ : ∃ n, l.length = n := ⟨_, rfl⟩
  have hd : dAddress l = .row 3 n D := by rw [hD, ← hn]; rfl
  have hDz : ∀ i, D i = (l.getD i nAddress).c := fun i => by rw [hD]
  have hct : ct (dAddress l) = sumTo (ctRow 3 D) n := by rw [hd]; rfl
  rw [hct] at hm ⊢
  rw [hd, mk_row] at h
  obtain ⟨A, c, rfl, h1, h2, h3⟩ := h
  unfold maxLen at h2
  have hn63 : n ≤ 9223372036854775807 := by omega
  have HM := Lib.hid hm
  have HD := Lib.hid hDz
  have H3 := Lib.hid h3
  have hmb : m ≤ 1125899906842624 := by omega
  clear hm h3 hct hd hD hDz hn h1
  go_enter Try.func30, Try.ntmps30
  go_wp2
  go_loopw [1, 5] (fun k i wr => ∃ j kk q : Nat, j ≤ n ∧ i = .int .i64 j ∧ k = .int .i64 kk ∧ Hid (kk = m + sumTo (ctRow 3 D) j) ∧ kk ≤ 1125899906842624 ∧ wr = w.drewN q) (fun _ i _ => n - (intOf i).toNat)
  case atStart => exact ⟨0, m, 0, Nat.zero_le _, rfl, rfl, by simp [sumTo, Hid], hmb, rfl⟩
  case round =>
    obtain ⟨j, kk, q, hj, rfl, rfl, HK, hkk, rfl⟩ := hrel
    by_cases hlt : j < n
    · obtain ⟨P, hP⟩ : ∃ P, l.getD j nAddress = P := ⟨_, rfl⟩
      have hDj : D j = P.c := by rw [HD.out, hP]
      have HDj := Lib.hid hDj
      have hb0 : m + before 3 D j 0 = kk := by rw [before_zero, HK.out]
      have htot : kk + sumTo (fun x => ct (P.c x)) 3 ≤ 1125899906842624 := by
        have q1 := sumTo_le (ctRow 3 D) (i := j + 1) (n := n) (by omega)
        have q2 : ctRow 3 D j = sumTo (fun x => ct (P.c x)) 3 := by unfold ctRow; rw [hDj]
        have q3 := HK.out; have q4 := HM.out
        simp only [sumTo] at q1 q2 ⊢
        omega
      rw [ct_Address] at htot
      have hb1 : m + before 3 D j 1 = kk + 1 := by rw [before_succ, hDj]; show m + (before 3 D j 0 + ct (.int P.f0)) = _; simp only [ct]; omega
      have hb2 : m + before 3 D j 2 = kk + 2 := by rw [before_succ, hDj]; show m + (before 3 D j 1 + ct (.int P.f1)) = _; simp only [ct]; omega
      have hfin : m + sumTo (ctRow 3 D) (j + 1) = kk + 3 := by rw [← before_next, before_succ, hDj]; show m + (before 3 D j 2 + ct (.int P.f2)) = _; simp only [ct]; omega
      have HF := Lib.hid hfin
      obtain ⟨b, off, rfl, _, _, k3⟩ := H3.out (by omega)
      obtain ⟨u0, cl0, le0⟩ := k3 j hlt 0 (by omega)
      rw [hDj, hb0] at le0
      have cm0 : (w.drewN q).cell? ⟨b, off + j * 3, none⟩ = some u0 := cl0
      obtain ⟨u1, cl1, le1⟩ := k3 j hlt 1 (by omega)
      rw [hDj, hb1] at le1
      have cm1 : (w.drewN q).cell? ⟨b, off + j * 3 + 1, none⟩ = some u1 := cl1
      obtain ⟨u2, cl2, le2⟩ := k3 j hlt 2 (by omega)
      rw [hDj, hb2] at le2
      have cm2 : (w.drewN q).cell? ⟨b, off + j * 3 + 2, none⟩ = some u2 := cl2
      clear k3 hP hDj hfin hb0 hb1 hb2 cl0 cl1 cl2
      obtain ⟨rfl, _⟩ := lies_int le0
      rw [show (((kk : Nat) : Int)) = (kk : Int) by omega] at cm0
      clear le0
      obtain ⟨rfl, _⟩ := lies_int le1
      rw [show (((kk + 1 : Nat) : Int)) = (kk : Int) + 1 by omega] at cm1
      clear le1
      obtain ⟨rfl, _⟩ := lies_int le2
      rw [show (((kk + 2 : Nat) : Int)) = (kk : Int) + 1 + 1 by omega] at cm2
      clear le2
      skip
      go_wp2
      go_roundw
      case rel =>
        refine ⟨j + 1, kk + 3, _, by omega, by go_num, (by rw [show ((kk + 3 : Nat) : Int) = (kk : Int) + 1 + 1 + 1 by omega]), ?_, ?_, by first | rfl | exact World.drewN_drewN _ _ _ | exact (World.drewN_drewN _ _ _).symm | (simp only [World.drewN_drewN]; rfl)⟩
        · have h1 := HF.out; show _ = _; omega
        · have h1 := HF.out; omega
      case measure => simp [intOf]; omega
    · have hd : decide ((j : Int) < (n : Int)) = false := by simp; omega
      have HE := Lib.hid (show j = n by omega)
      go_wp2
      go_ret
      have g2 := HK.out
      rw [HE.out] at g2
      exact ⟨by rw [g2]; rfl, q, rfl⟩
theorem lies_mk_Address {lo hi m : Nat} {w : World} {l : List TAddress} {v : Value} (h : Lies lo hi w (mk m (dAddress l)) v) : ∃ A c, v = .slice A l.length c := by
  obtain ⟨A, c, e, _⟩ := h; exact ⟨A, c, e⟩
end Go.Proofs.Ytagnhfalmefbhaa.Gen
